import Derived.Test.YtionbmlicmibgaaGreatDoorX1
set_option linter.unusedVariables false
set_option linter.unusedSimpArgs false
namespace Go.Proofs.YtionbmlicmibgaaGreatDoor
open Go.Proofs.Tryz
set_option maxRecDepth 200000
set_option maxHeartbeats 4000000
open Go.RowKit
theorem yA (l : List St) : (l.flatMap mN).length = l.length * 11 := by
 induction l with
 | nil => rfl
 | cons x r ih => rw [adw, acH, ih, gM, acZ]; omega
theorem uU : ∀ (l : List St) (i k : Nat) {x : St}, l[i]? = some x → k < 11 → (l.flatMap mN)[i * 11 + k]? = (mN x)[k]?
 | [], i, k, x, h, _ => by simp at h
 | y :: r, 0, k, x, h, hk => by
  simp only [ad2, adp] at h;subst h;rw [adw, Nat.zero_mul, ac2, aea (by rw [gM]; exact hk)]
 | y :: r, i + 1, k, x, h, hk => by
  rw [aeh] at h;rw [adw, ad6 (by rw [gM]; omega), gM, show (i + 1) * 11 + k - 11 = i * 11 + k by omega];exact uU r i k h hk
def dJ (w : World) (g o : Nat) (x : St) : Prop := ∀ (k : Nat) u, (mN x)[k]? = some u → w.cell? ⟨g, o + k, none⟩ = some u
theorem dJ.c0 {w : World} {g o : Nat} {x : St} (h : dJ w g o x) : w.cell? ⟨g, o, none⟩ = some (.int .i64 x.s) := h 0 _ rfl
theorem dJ.c1 {w : World} {g o : Nat} {x : St} (h : dJ w g o x) : w.cell? ⟨g, o + 1, none⟩ = some (.int .i64 x.q) := h 1 _ rfl
theorem dJ.c2 {w : World} {g o : Nat} {x : St} (h : dJ w g o x) : w.cell? ⟨g, o + 2, none⟩ = some (.int .i64 x.a) := h 2 _ rfl
theorem dJ.c3 {w : World} {g o : Nat} {x : St} (h : dJ w g o x) : w.cell? ⟨g, o + 3, none⟩ = some (.int .i64 x.r.er) := h 3 _ rfl
theorem dJ.c4 {w : World} {g o : Nat} {x : St} (h : dJ w g o x) : w.cell? ⟨g, o + 4, none⟩ = some (.int .i64 x.r.rs) := h 4 _ rfl
theorem dJ.c5 {w : World} {g o : Nat} {x : St} (h : dJ w g o x) : w.cell? ⟨g, o + 5, none⟩ = some (.int .i64 x.r.gn) := h 5 _ rfl
theorem dJ.c6 {w : World} {g o : Nat} {x : St} (h : dJ w g o x) : w.cell? ⟨g, o + 6, none⟩ = some (.int .i64 x.r.ad) := h 6 _ rfl
theorem dJ.c7 {w : World} {g o : Nat} {x : St} (h : dJ w g o x) : w.cell? ⟨g, o + 7, none⟩ = some (.int .i64 x.r.sa) := h 7 _ rfl
theorem dJ.c8 {w : World} {g o : Nat} {x : St} (h : dJ w g o x) : w.cell? ⟨g, o + 8, none⟩ = some (.int .i64 x.r.ot) := h 8 _ rfl
theorem dJ.c9 {w : World} {g o : Nat} {x : St} (h : dJ w g o x) : w.cell? ⟨g, o + 9, none⟩ = some (.int .i64 x.r.cy) := h 9 _ rfl
theorem dJ.c10 {w : World} {g o : Nat} {x : St} (h : dJ w g o x) : w.cell? ⟨g, o + 10, none⟩ = some (.int .i64 x.r.fu) := h 10 _ rfl
theorem dJ.below {w w' : World} {g o : Nat} {x : St} (h : dJ w g o x) (hb : Below w.heap.size w w') : dJ w' g o x := fun k u hk => (hb.cell (lt_of_cell (h k u hk))).trans (h k u hk)
theorem dJ.drewN {w : World} {g o : Nat} {x : St} (h : dJ w g o x) (n : Nat) : dJ (w.drewN n) g o x := h
def wh (w : World) (v : Value) (l : List St) : Prop :=
 ∃ (p : Option Addr) (cap : Nat), v = .slice p l.length cap ∧ l.length ≤ cap ∧ cap ≤ maxLen ∧ (p = none → cap = 0) ∧
  (0 < l.length → ∃ g o, p = some ⟨g, o, none⟩ ∧ ∀ (i : Nat) x, l[i]? = some x → dJ w g (o + i * 11) x)
theorem wh.nil (w : World) : wh w (.slice none 0 0) [] := ⟨none, 0, rfl, acE _, by simp [maxLen], fun _ => rfl, fun h => absurd h (aez _)⟩
theorem wh.sl {w : World} {v : Value} {l : List St} (h : wh w v l) : ∃ p n c, v = .slice p n c := by
 obtain ⟨p, c, e, _⟩ := h;exact ⟨p, _, c, e⟩
theorem wh.len {w : World} {p : Option Addr} {n c : Nat} {l : List St} (h : wh w (.slice p n c) l) : n = l.length ∧ n ≤ c ∧ c ≤ maxLen := by
 obtain ⟨p', c', e, hl, hm, _⟩ := h;injection e with _ e2 e3;subst e2 e3;exact ⟨rfl, hl, hm⟩
theorem wh.at_ {w : World} {p : Option Addr} {n c : Nat} {l : List St} (h : wh w (.slice p n c) l) (hn : 0 < n) : ∃ g o, p = some ⟨g, o, none⟩ ∧ ∀ (i : Nat) x, l[i]? = some x → dJ w g (o + i * 11) x := by
 obtain ⟨p', c', e, _, _, _, hx⟩ := h;injection e with e1 e2 e3;subst e1 e2;exact hx hn
def dX (B : Nat) (w : World) (v : Value) (l : List St) : Prop := w.ownsRow B 84 11 v l.length (l.flatMap mN)
theorem dX.nil (B : Nat) (w : World) : dX B w (.slice none 0 0) [] := aex _ _ _ _
theorem dX.nP {B : Nat} {w : World} {v : Value} {l : List St} (h : dX B w v l) : wh w v l := by
 obtain ⟨hl, ⟨rfl, h0⟩ | ⟨g, cap, cur, rfl, hB, hh, hc, hm, hs, ht⟩⟩ := h
 ·obtain rfl : l = [] := acP h0;exact wh.nil w
 ·refine ⟨_, cap, rfl, hc, hm, (fun e => by cases e), fun _ => ⟨g, 0, rfl, fun i x hi k u hk => ?_⟩⟩;have QU : k < 11 := by
   have := (acL.1 hk).1
   rwa [gM] at this
  have Ix := (acL.1 hi).1;have h1 := uU l i k hi QU;rw [hk, ← ht, adQ (by omega), adZ] at h1;rw [acC w g (0 + i * 11 + k) cur _ (0, 0) hh, ac2];exact h1
theorem dX.lt {B : Nat} {w : World} {v : Value} {l : List St} (h : dX B w v l) : ∀ k, v.ownBlock = some k → B ≤ k ∧ k < w.heap.size := adA h
theorem dX.below {B : Nat} {w w' : World} {v : Value} {l : List St} (h : dX B w v l) (hb : Below w.heap.size w w') : dX B w' v l := adV (row := none) h ⟨hb.os, hb.tape, hb.output, hb.size, fun k hk _ => hb.block k hk⟩ (by cases v.ownBlock <;> simp)
theorem dX.mono {B B' : Nat} {w : World} {v : Value} {l : List St} (h : dX B w v l) (hB : B' ≤ B) : dX B' w v l := ⟨h.1, h.2.imp id fun ⟨g, cap, cur, e, hb, r⟩ => ⟨g, cap, cur, e, acN hB hb, r⟩⟩
theorem dX.grown {B : Nat} {w w' : World} {v : Value} {l : List St} {row : Option Nat} (h : dX B w v l) (hg : w.grownBy w' row) (aN : v.ownBlock = none ∨ v.ownBlock ≠ row) : dX B w' v l := adV h hg aN
theorem Tryz.infoSt : (Tryz.prog.info? 84).map (fun i => (i.zero, i.size, i.bytes)) = some (some (.agg #[.int .i64 0, .int .i64 0, .int .i64 0, .int .i64 0, .int .i64 0, .int .i64 0, .int .i64 0, .int .i64 0, .int .i64 0, .int .i64 0, .int .i64 0]), 11, 88) := by kernel_rfl
theorem JG {B : Nat} {w : World} {v : Value} {l : List St} (h : dX B w v l) (x : St) (hB : B ≤ w.heap.size) (hs : l.length ≤ 1100000) :
  ∃ v' w', (Builtin.append_ #[81, 81] 81 #[v, .slice (some ⟨w.heap.size, 0, none⟩) 1 1]).run prog (w.alloc (.cells #[.int .i64 x.s, .int .i64 x.q, .int .i64 x.a, .int .i64 x.r.er, .int .i64 x.r.rs, .int .i64 x.r.gn, .int .i64 x.r.ad, .int .i64 x.r.sa, .int .i64 x.r.ot, .int .i64 x.r.cy, .int .i64 x.r.fu] 84)) = .ok v' w' ∧ dX B w' v' (l ++ [x]) ∧ Below B w w' ∧ w.grownBy w' v.ownBlock ∧ (v'.ownBlock = v.ownBlock ∨ v'.ownBlock = some (w.heap.size + 1)) := by
 obtain ⟨i0, eV, gu, fC, fD⟩ := adM Tryz.infoSt;have xC := ady h (.cells #[.int .i64 x.s, .int .i64 x.q, .int .i64 x.a, .int .i64 x.r.er, .int .i64 x.r.rs, .int .i64 x.r.gn, .int .i64 x.r.ad, .int .i64 x.r.sa, .int .i64 x.r.ot, .int .i64 x.r.cy, .int .i64 x.r.fu] 84);obtain ⟨v', w', hr, h1, h2, _, h4⟩ := adK (P := prog) (w.alloc (.cells #[.int .i64 x.s, .int .i64 x.q, .int .i64 x.a, .int .i64 x.r.er, .int .i64 x.r.rs, .int .i64 x.r.gn, .int .i64 x.r.ad, .int .i64 x.r.sa, .int .i64 x.r.ot, .int .i64 x.r.cy, .int .i64 x.r.fu] 84)) B 81 81 84 i0 _ 11 88 underlying81 eV gu fC fD rfl (by decide) v l.length (l.flatMap mN) xC ⟨w.heap.size, 0, none⟩ 1 1 (mN x) rfl
  (fun j u hj => by
   rw [bq, ac2, acC _ w.heap.size j _ 84 (0, 0) (acQ w _)]
   simpa [mN] using hj)
  (Gz x) (by simp only [maxLen]; omega) (by omega) (by simp; omega)
 have fA : Below B w (w.alloc (.cells #[.int .i64 x.s, .int .i64 x.q, .int .i64 x.a, .int .i64 x.r.er, .int .i64 x.r.rs, .int .i64 x.r.gn, .int .i64 x.r.ad, .int .i64 x.r.sa, .int .i64 x.r.ot, .int .i64 x.r.cy, .int .i64 x.r.fu] 84)) := (acG _ _).alloc hB _;refine ⟨v', w', hr, ?_, fA.grown h2 (by simp; omega) fun k hk => (adA h k hk).1, ?_, ?_⟩
 ·have : (l ++ [x]).flatMap mN = l.flatMap mN ++ mN x := by simp
  unfold dX;rw [this, acH];exact h1
 ·refine ⟨h2.os, h2.tape, h2.output, ?_, fun k hk aN => ?_⟩
  ·have := h2.size;simp at this;omega
  ·rw [h2.block k (by simp; omega) aN];exact aeN _ _ hk
 ·simpa using h4
theorem FA {l : List St} {j : Nat} {u : Value} (h : (l.flatMap mN)[j]? = some u) : ∃ x, l[j / 11]? = some x ∧ (mN x)[j % 11]? = some u := by
 have hj := (acL.1 h).1;rw [yA] at hj;have hx : l[j / 11]? = some (l[j / 11]'(by omega)) := acF _;refine ⟨_, hx, ?_⟩;rw [← uU l (j / 11) (j % 11) hx (ae8 _ (by omega)), show j / 11 * 11 + j % 11 = j by omega];exact h
theorem uV {w : World} {v : Value} {l : List St} {B : Nat} (hv : dX B w v l) (p : Option Addr) (c : Nat) : (Builtin.append_ #[81, 81] 81 #[v, .slice p 0 c]).run prog w = .ok v w := by
 obtain ⟨i0, eV, gu, fC, fD⟩ := adM Tryz.infoSt;obtain ⟨_, ⟨rfl, _⟩ | ⟨g, cap, cur, rfl, _, _, hl, _⟩⟩ := hv
 ·cases p <;> simp [Builtin.append_, aeu underlying81, Go.sizeOf, typeInfo, eV, Builtin.lenOf, Builtin.firstCells, loadCells, loadCellsFrom]
 ·cases p <;> simp [Builtin.append_, aeu underlying81, Go.sizeOf, typeInfo, eV, Builtin.lenOf, Builtin.firstCells, hl, storeCells, loadCells, loadCellsFrom]
theorem C0 {B : Nat} {w : World} {v u : Value} {l m : List St} (h : dX B w v l) (hu : wh w u m) (hB : B ≤ w.heap.size) (hs : (l.length + m.length) * 88 ≤ 140737488355328) :
  ∃ v' w', (Builtin.append_ #[81, 81] 81 #[v, u]).run prog w = .ok v' w' ∧ dX B w' v' (l ++ m) ∧ Below B w w' ∧ w.grownBy w' v.ownBlock := by
 obtain ⟨i0, eV, gu, fC, fD⟩ := adM Tryz.infoSt;obtain ⟨p, n, c, rfl⟩ := hu.sl;have hn := hu.len.1;by_cases h0 : n = 0
 ·subst h0;obtain rfl : m = [] := acP hn.symm;exact ⟨v, w, uV h p c, by rw [adh]; exact h, acG _ _, adk _ _⟩
 ·obtain ⟨g, o, rfl, hx⟩ := hu.at_ (by omega);obtain ⟨v', w', hr, h1, h2, _, h4⟩ := adK (P := prog) w B 81 81 84 i0 _ 11 88 underlying81 eV gu fC fD rfl (by decide) v l.length (l.flatMap mN) h ⟨g, o, none⟩ n c (m.flatMap mN) (by rw [yA, hn])
   (fun j u hj => by
    obtain ⟨x, o7, hk⟩ := FA hj;have := hx (j / 11) x o7 (j % 11) u hk;rw [show o + j / 11 * 11 + j % 11 = o + j by omega] at this;rw [bq];exact this)
   (fun u hu => by
    obtain ⟨x, _, hx⟩ := adz.1 hu;exact Gz x u hx) (by simp only [maxLen]; omega) (by omega) hB
  refine ⟨v', w', hr, ?_, (acG _ _).grown h2 hB fun k hk => (adA h k hk).1, h2⟩;unfold dX;rw [adt, acH, ← hn];exact h1
theorem Ae {w : World} {ops : Array Oper} {rest : List Oper} {o : Oper} {a : Act} {Q : Exit → Act → World → Prop} (kS : o.guard = none) (s t : Operand)
  (ho : o.op = .call { callee := .builtin .append, args := #[s, t], argTypes := #[81, 81] }) (hty : o.type = 81) {B : Nat} {v : Value} {l : List St} (x : St) {H : Nat}
  (hs : a.eval s = v) (ht : a.eval t = .slice (some ⟨H, 0, none⟩) 1 1) (hH : H = w.heap.size) (h : dX B w v l) (hB : B ≤ w.heap.size) (hn : l.length ≤ 1100000)
  (hK : ∀ v' w', dX B w' v' (l ++ [x]) → Below B w w' → w.grownBy w' v.ownBlock → wpList prog ops Q rest (a.put o.dst v') w') : wpList prog ops Q (o :: rest) a (w.alloc (.cells #[.int .i64 x.s, .int .i64 x.q, .int .i64 x.a, .int .i64 x.r.er, .int .i64 x.r.rs, .int .i64 x.r.gn, .int .i64 x.r.ad, .int .i64 x.r.sa, .int .i64 x.r.ot, .int .i64 x.r.cy, .int .i64 x.r.fu] 84)) := by
 subst hH;obtain ⟨v', w', hr, h1, h2, h3, _⟩ := JG h x hB hn;exact adC _ kS s t 81 ho v _ hs ht (by rw [hty]; exact hr) (hK v' w' h1 h2 h3)
open Go.RowKit Go.Maps Go.Sort Go.Shelf
theorem sr {w : World} {b : Nat} {L : List St} {D : DataW Value} (h : iN w b L D) {ss : List Int} (hp : ss.Perm (intKeys D)) : ss.mergeSort (fun x y => decide (x ≤ y)) = L.map (·.s) := by
 obtain ⟨es, hD, hpw, _⟩ := h.map.entries fe;obtain ⟨es', M7, hko⟩ := h.map.keysOf;obtain rfl : es = es' := by rw [hD] at M7; simpa using M7
 have hr : (L.map (·.s)).Pairwise (fun x y => x < y) := List.pairwise_map.2 h.rd.rises;have Zo : (L.map (·.s)).Nodup := hr.imp fun {x y} (h : x < y) e => by omega
 have hq : (L.map (·.s)).Perm (intKeys D) := by
  rw [hD];refine perm_intKeys hpw (fun p hp => ?_) Zo fun x => ?_
  ·obtain ⟨v, hv⟩ := hko p hp;obtain ⟨x, _, hx, _⟩ := Maps.keyOf_i64 aee hv;exact ⟨x, hx⟩
  ·rw [← hD, h.rd.keys];constructor
   ·intro hx;obtain ⟨y, hy, rfl⟩ := ads.1 hx;rw [iM h.rd.rises.ids hy];rfl
   ·intro hx;obtain ⟨y, hy⟩ := adG.1 hx;obtain ⟨h1, h2⟩ := kM hy;exact ads.2 ⟨y, h1, h2⟩
 have e := mergeSort_of_perm_i (hp.trans hq.symm);unfold leI at e;rw [e];exact List.mergeSort_of_pairwise (hr.imp fun {x y} (h : x < y) => by simp; omega)
theorem Af (mb : Option Nat) (W : World) : Calls prog 133 #[.map mb] W fun e w' => e = .returned (.func (.func 171) #[] #[.pointer (some ⟨W.heap.size, 0, none⟩)]) ∧ w' = W.alloc (.cells #[.map mb] 171) :=
 (callsIn_wide (n := 5)).1 (AnyZI.keys_in Tryz.keysT Fence.wide 5 aev rfl mb W)
theorem uX {w : World} {b : Nat} {L : List St} {D : DataW Value} (h : iN w b L D) (hL : L.length ≤ 1100000) : Calls prog 128 #[.func (.func 171) #[] #[.pointer (some ⟨w.heap.size, 0, none⟩)]] (w.alloc (.cells #[.map (some b)] 171)) (uP (w.alloc (.cells #[.map (some b)] 171)) (L.map (·.s))) := by
 have xu := h.lt;have UE : SeqGives Fence.wide 2 prog 171 #[.pointer (some ⟨w.heap.size, 0, none⟩)] encZ (fun ss => ss.Perm (intKeys D)) (Maps.size D) (w.alloc (.cells #[.map (some b)] 171)) :=
  AnyZI.keys_gives (ρ := Tryz.keysT_ren) { Tryz.keysT with } Fence.wide _ aev rfl (by omega) w.heap.size b L.length D _ (by simp) (by simp) (by
   obtain ⟨es, clock, hb, Ft, hs, hD⟩ := h.map;exact ⟨es, clock, (Below.heap_alloc _ _ b xu).trans hb, Ft, hs, hD⟩)
 have cS := AnyZI.sorted_in Tryz.sortedA Fence.wide 5 aev aev aev aev rfl (by omega) (M8 _) (enters_of func167 (by kernel_rfl) rfl) 171 #[.pointer (some ⟨w.heap.size, 0, none⟩)] aev (enters_of func171 (by kernel_rfl) rfl) _ _ (by rw [h.rd.size]; simp [maxLen]; omega) (by rw [h.rd.size]; omega) _ UE;change CallsIn _ _ prog 128 _ _ _ at cS;refine ((callsIn_wide (n := 5)).1 cS).mono ?_;rintro e w' ⟨v, ss, rfl, hS, aM, Tc, hb⟩;have hs := sr h hS;refine ⟨v, rfl, ?_, hb⟩;have hl : ss.length = (L.map (·.s)).length := by rw [← hs, List.length_mergeSort]
 rw [hs, hl] at aM;exact aM
def xw (w : World) (L : List St) (e : Ending) (w' : World) : Prop := ∃ v, e = .returned v ∧ dX w.heap.size w' v L ∧ Below w.heap.size w w'
theorem j8 {w : World} {g b : Nat} {L : List St} (h : d_ w g b L) : Calls prog 95 #[.pointer (some ⟨g, 0, none⟩)] w (xw w L) := by
 have HM := af (fU h.c0);have HH := af h;have P8 := h.ok.len;have Bn := af h.ok;clear h;go_enter func95, ntmps95
 go_wp2_with fail
 refine HM.out.mono ?_;rintro e X ⟨rfl, kg⟩;have hX := HH.out.aU kg (fun e => e) (fun e => e);have c0 := hX.c0;obtain ⟨D, hD⟩ := hX.map;have HS := af (uX hD (by omega));have HX := af hX;have qQ := af kg;clear hX hD kg;go_wp2_with fail
 refine (Af _ _).mono ?_;rintro e w1 ⟨rfl, rfl⟩;go_wp2_with fail
 refine HS.out.mono ?_;rintro e w2 ⟨v, rfl, aM, aP⟩;have r_ : (L.map (·.s)).length = L.length := by simp
 rw [r_] at aM;obtain ⟨p, c, rfl, hlen, jB, yI⟩ := fL aM;have hb : Below X.heap.size X w2 := ((acG _ X).alloc (acE _) _).trans (aP.mono (by simp));have hT2 := HX.out.below hb;have HT2 := af hT2;have fA : Below w.heap.size w w2 := ak.aZ (acG _ _) (qQ.out.cC hb) (fun k e => e.elim);have oN := af fA;have ZU := af yI;have abE : (L.length : Int) ≤ 9223372036854775807 := by omega
 clear aM aP hT2 hb fA yI hlen jB r_;go_wp2;go_loopw [3, 16] (fun v i wr => ∃ k : Nat, k ≤ L.length ∧ i = .int .i64 k ∧ (∃ p n c, v = .slice p n c) ∧ Hid (dX w2.heap.size wr v (L.take k) ∧ Below w2.heap.size w2 wr)) (fun _ i _ => L.length - (intOf i).toNat)
 case atStart => exact ⟨0, by omega, rfl, ⟨_, _, _, rfl⟩, af ⟨dX.nil _ _, acG _ _⟩⟩
 case round =>
  obtain ⟨k, hk, rfl, ⟨p3, n3, c3, rfl⟩, HR⟩ := hrel;by_cases bd : k < L.length
  ·obtain ⟨y, hy⟩ : ∃ y, L[k]? = some y := ⟨_, acF bd⟩
   have Bw : 0 < L.length := by omega
   obtain ⟨gk, rfl, ZV, hc⟩ := ZU.out Bw;have qs := hc k y.s (by simp [hy]);have RG := HT2.out.below HR.out.2;have abF : wr.cell? ⟨gk, k, none⟩ = some (.int .i64 y.s) := (HR.out.2.cell (p := ⟨gk, k, none⟩) ZV).trans qs;have c0r := RG.c0;obtain ⟨Dr, YP⟩ := RG.map;have Gy : y ∈ L := acS hy;have hyk := (St.aO.1 (Bn.out.ok y Gy)).1;have hl := (YP.look (k := y.s) (YQ (by omega) (by omega)) 0).2;rw [iM Bn.out.rises.ids Gy, aep] at hl;have J6 : (Instr.lookup 171 (.map (some b)) (.int .i64 y.s) false).run prog wr = .ok (nC y) wr := hl;have iB : Hid (L.take (k + 1) = L.take k ++ [y]) := af (by rw [ac5, hy]; rfl);have QG : Hid ((L.take k).length ≤ 1100000) := af (by rw [ac6]; omega);obtain ⟨s, q, a, ⟨e1, e2, e3, e4, e5, e6, e7, e8⟩⟩ := y;unfold nC at J6;dsimp only at *;clear hl YP RG Gy qs hc hy;go_wp2_with (at_builtin; go_loud (refine Ae (w := wr) (v := .slice p3 n3 c3) (l := L.take k) (B := w2.heap.size) (H := wr.heap.size) rfl (.tmp 20) (.tmp 27) rfl rfl ⟨s, q, a, ⟨e1, e2, e3, e4, e5, e6, e7, e8⟩⟩ rfl rfl rfl HR.out.1 HR.out.2.size QG.out ?_); intro v5 w5 bP aL ik)
   obtain ⟨p5, n5, c5, rfl⟩ := bP.nP.sl;have ql := af bP;have cH := af (HR.out.2.trans aL);clear bP aL ik;go_wp2;go_roundw;case rel => exact ⟨k + 1, by omega, by go_num, ⟨_, _, _, rfl⟩, af ⟨by rw [iB.out]; exact ql.out, cH.out⟩⟩
   case measure => simp [intOf]; omega
  ·go_wp2;go_ret;have e : L.take k = L := acY (by omega);have ho := HR.out.1;rw [e] at ho;exact ⟨_, rfl, ho.mono oN.out.size, oN.out.trans (HR.out.2.mono oN.out.size)⟩
open Go.RowKit Go.Lib
instance : Inhabited St := ⟨RH⟩
theorem UJ (x y : St) : (x.s == y.s && (x.q == y.q && (x.a == y.a && (x.r.er == y.r.er && (x.r.rs == y.r.rs && (x.r.gn == y.r.gn && (x.r.ad == y.r.ad && (x.r.sa == y.r.sa && (x.r.ot == y.r.ot && (x.r.cy == y.r.cy && (x.r.fu == y.r.fu))))))))))) = decide (x = y) := by
 obtain ⟨c1, c2, c3, a1, a2, a3, a4, a5, a6, a7, a8⟩ := x;obtain ⟨d1, d2, d3, b1, b2, b3, b4, b5, b6, b7, b8⟩ := y;dsimp only;rw [aem];simp [St.mk.injEq, Rp.mk.injEq]
theorem UK (x y : St) (w : World) : (binOp .eql 84 (.agg (mN x).toArray) (.agg (mN y).toArray)).run prog w = .ok (.bool (decide (x = y))) w := by
 have u3 := aee;have a3 := Tryz.isAgg3;have z3 := Tryz.sizeOf3;have ue := underlying33;have ae := Tryz.isAgg33;have ze := Tryz.sizeOf33;have ag0 := Tryz.isAgg66;have zg0 := Tryz.sizeOf66;have ag1 := Tryz.isAgg64;have zg1 := Tryz.sizeOf64;have hS : Tryz.prog.underlying 84 = some (.struct (Tryz.prog.fieldsOf 84)) := by kernel_rfl
 have hp : Tryz.prog.stoodInHeld 84 = false := by kernel_rfl
 rw [← UJ];simp only [mN];rw [run_eql_struct, show (10000 : Nat) = 9999 + 1 from rfl, run_equalIn_agg w 9999 84 _ _ hS hp];simp only [Program.fieldsOf, underlying84];clear hS;go_simp
 (repeat' split) <;> simp_all
theorem Ng : NeqAt prog 84 (fun x : St => .agg (mN x).toArray) (fun x y => decide (x = y)) := by
 refine ⟨fun x y w => ?_, GuardAt.agg (fun x : St => (mN x).toArray) (by kernel_rfl)⟩;have h := UK x y w;rw [run_eql_struct] at h;rw [run_neq_struct];cases hr : (Op.equalIn 10000 84 (.agg (mN x).toArray) (.agg (mN y).toArray)).run prog w with
 | ok b w' =>
  rw [hr] at h;simp only [Result.andThen_ok, Result.ok.injEq, Value.bool.injEq] at h ⊢;rw [h.1];exact ⟨rfl, h.2⟩
 | halt x w' =>
  rw [hr] at h;simp [Result.andThen] at h
theorem uY : ∀ l m : List St, Lib.allEq (fun x y => decide (x = y)) l m = decide (l = m)
 | [], [] => rfl
 | [], _ :: _ => rfl
 | _ :: _, [] => rfl
 | x :: r, y :: s => by
  rw [Lib.allEq, uY r s, aem];simp
theorem A7 {w : World} {v1 v2 : Value} {l1 l2 : List St} (h1 : wh w v1 l1) (h2 : wh w v2 l2) :
  Calls prog 45 #[v1, v2] w fun e w' => e = .returned (.bool (decide (l1 = l2))) ∧ ∃ q, w' = w.drewN q := by
 obtain ⟨p1, n1, c1, rfl⟩ := h1.sl;obtain ⟨p2, n2, c2, rfl⟩ := h2.sl;obtain ⟨zy, zw, Aw⟩ := h1.len;obtain ⟨sG, rX, VU⟩ := h2.len;unfold maxLen at Aw VU;by_cases aN : n1 = n2
 ·subst aN;by_cases h0 : 0 < n1
  ·obtain ⟨g1, o1, rfl, T9⟩ := h1.at_ h0;obtain ⟨g2, o2, rfl, Ui⟩ := h2.at_ h0;have := AnyQ.slices_Equal Tryz.equalSt 11 Tryz.isAgg84 Tryz.sizeOf84 mN gM (fun x y => decide (x = y)) Ng g1 o1 n1 c1 g2 o2 n1 c2 l1 l2 w (by omega) (by omega) (by omega) (by omega)
    (fun j hj i v hi => by
     have Jj : l1[j]? = some l1[j]! := by rw [acF hj, ae1 l1 j hj]
     exact T9 j _ Jj i v hi)
    (fun j hj i v hi => by
     have Jj : l2[j]? = some l2[j]! := by rw [acF hj, ae1 l2 j hj]
     exact Ui j _ Jj i v hi)
   refine this.mono fun e w' ⟨he, hw⟩ => ⟨?_, hw⟩
   rw [he, acY (by omega), acY (by omega), uY]
  ·obtain rfl : l1 = [] := acP (by omega);obtain rfl : l2 = [] := acP (by omega);obtain rfl : n1 = 0 := by omega
   clear h1 h2 zy sG h0;rw [ac4 rfl];go_enter func45, ntmps45
   go_wp2;refine wp_loop_rounds 1 ?_;rw [rounds_succ];go_wp2;go_ret;exact ⟨rfl, 0, rfl⟩
 ·have hd : decide (l1 = l2) = false := ac1 (by rintro rfl; omega);rw [hd];have hi : ¬ (n1 : Int) = (n2 : Int) := by omega
  clear h1 h2 hd zy sG;go_enter func45, ntmps45
  go_wp2;go_ret;exact ⟨rfl, 0, rfl⟩
structure jz (w0 : World) (g b : Nat) (w : World) (L : List St) : Prop where
 tb : d_ w g b L
 gl : w0.heap.size ≤ g
 bl : w0.heap.size ≤ b
 below : Below w0.heap.size w0 w
theorem jz.new {w w' : World} (h : d_ w' (w.heap.size + 1) w.heap.size []) (hb : Below w.heap.size w w') : jz w (w.heap.size + 1) w.heap.size w' [] := ⟨h, by omega, acE _, hb⟩
theorem jz.tab {w0 w w' : World} {g b : Nat} {L L' : List St} (h : jz w0 g b w L) (h' : d_ w' g b L') (hc : ak w w' (fun k => k = b)) : jz w0 g b w' L' :=
 ⟨h', h.gl, h.bl, ak.aZ h.below hc (fun k e => by rw [e]; exact h.bl)⟩
theorem jz.vP {w0 w w' : World} {g b : Nat} {L : List St} (h : jz w0 g b w L) (hb : Below w.heap.size w w') : jz w0 g b w' L :=
 ⟨h.tb.below hb, h.gl, h.bl, h.below.trans (hb.mono h.below.size)⟩
def jA (l : List Int) : List UInt8 := l.flatMap fun n => digits n.toNat
def cP (x : St) : List UInt8 := jA x.nums
def dN (L : List St) : List UInt8 := digits L.length ++ L.flatMap cP
theorem uZ {l : List Int} {k : Nat} {n : Int} (h : l[k]? = some n) : jA (l.take (k + 1)) = jA (l.take k) ++ digits n.toNat := by
 unfold jA;rw [ac5, h, adt];simp
theorem qR (l : List Int) (h : ∀ n ∈ l, n40 n = true) : (jA l).length ≤ l.length * 9 := by
 induction l with
 | nil => simp [jA]
 | cons x r ih =>
  have h1 := digits_length x.toNat (by have := iL.1 (h x (ac8 ..)); omega);have h2 := ih fun n hn => h n (ade _ hn);unfold jA at h2 ⊢;rw [adw, acH, acZ];omega
theorem u_ {x : St} (h : x.ok = true) : (cP x).length ≤ 99 := by
 have h2 : x.tell = true := by unfold St.ok at h; simp at h; exact h.2
 exact qR x.nums fun n hn => adl.1 h2 n hn
theorem va {L : List St} (h : ∀ x ∈ L, x.ok = true) : (L.flatMap cP).length ≤ L.length * 99 := by
 induction L with
 | nil => simp
 | cons x r ih =>
  have h1 := u_ (h x (ac8 ..));have h2 := ih fun n hn => h n (ade _ hn);rw [adw, acH, acZ];omega
theorem lR {L : List St} (h : dS L) : (dN L).length ≤ 1000 := by
 have h1 := va h.ok;have h2 := digits_length L.length (by have := h.len; omega);have := h.len;unfold dN;rw [acH];omega
def qS (w : World) (l : List UInt8) (e : Ending) (w' : World) : Prop := ∃ v, e = .returned v ∧ Own w.heap.size w' v l ∧ Below w.heap.size w w'
theorem su (w : World) {x : St} (aT : x.ok = true) : Calls prog 165 #[nC x] w (qS w (cP x)) := by
 have HN := fun w => lH w x;obtain ⟨l, hl⟩ : ∃ l, x.nums = l := ⟨_, rfl⟩
 have r_ : l.length = 11 := by rw [← hl]; rfl
 have HA : Hid (∀ n ∈ l, n40 n = true) := af (by
  have h2 : x.tell = true := by unfold St.ok at aT; simp at aT; exact aT.2
  rw [← hl];exact fun n hn => adl.1 h2 n hn)
 have HB : Hid (cP x = jA l) := af (by rw [← hl]; rfl);rw [hl] at HN;obtain ⟨bt, bG⟩ : ∃ bt, cP x = bt := ⟨_, rfl⟩
 rw [bG] at HB ⊢;clear hl bG aT;obtain ⟨s, q, a, ⟨e1, e2, e3, e4, e5, e6, e7, e8⟩⟩ := x;unfold nC at *;dsimp only at *;have HL := af r_;clear r_;go_enter func165, ntmps165
 go_wp2_with fail
 refine (HN _).mono ?_;rintro e w1 ⟨g, rfl, hn, hg, hb⟩;have HG := af (((acG w.heap.size w).alloc (acE _) _).trans (hb.mono (by simp)));have vr := af hn;clear hb hg hn;go_wp2;go_loopw [3, 9] (fun v i wr => ∃ k : Nat, k ≤ 11 ∧ i = .int .i64 k ∧ (∃ p n c, v = .slice p n c) ∧ Hid (Own w1.heap.size wr v (jA (l.take k)) ∧ Below w1.heap.size w1 wr)) (fun _ i _ => 11 - (intOf i).toNat)
 case atStart => exact ⟨0, by omega, rfl, ⟨_, _, _, rfl⟩, af ⟨Own.nil _ _, acG _ _⟩⟩
 case round =>
  obtain ⟨k, hk, rfl, ⟨p3, n3, c3, rfl⟩, HR⟩ := hrel;by_cases bd : k < 11
  ·have qK : k < l.length := by have := HL.out; omega
   obtain ⟨n, sF⟩ : ∃ n, l[k]? = some n := ⟨_, acF qK⟩
   have zw := vr.out k n sF;have hc := (HR.out.2.cell (lt_of_cell zw)).trans zw;have HT := af (uZ sF);have abJ := iL.1 (HA.out n (acS sF));have hlen : (jA (l.take k)).length ≤ 140737488000000 := by
    have := qR (l.take k) fun n hn => HA.out n (adD hn);rw [ac6] at this;omega
   have Kc := af (bh HR.out.1.bp hlen n n.toNat (by omega) (by unfold lim; omega));clear sF qK zw hlen abJ;go_wp2_with fail
   refine Kc.out.mono ?_;rintro e w5 ⟨v5, rfl, bP, aL⟩;obtain ⟨p5, n5, c5, rfl⟩ := bP.bp.sl;have ql := af (bP.mono HR.out.2.size);have cH := af (HR.out.2.trans (aL.mono HR.out.2.size));clear bP aL Kc;go_wp2;go_roundw;case rel => exact ⟨k + 1, by omega, by go_num, ⟨_, _, _, rfl⟩, af ⟨by rw [HT.out]; exact ql.out, cH.out⟩⟩
   case measure => simp [intOf]; omega
  ·go_wp2;go_ret;have e : l.take k = l := acY (by have := HL.out; omega);have ho := HR.out.1;rw [e, ← HB.out] at ho;exact ⟨_, rfl, ho.mono HG.out.size, HG.out.trans (HR.out.2.mono HG.out.size)⟩
theorem C2 {L : List St} {k : Nat} {x : St} (h : L[k]? = some x) (m : List UInt8) : m ++ (L.take (k + 1)).flatMap cP = (m ++ (L.take k).flatMap cP) ++ cP x := by
 rw [ac5, h, adt, ac7];simp
theorem nT {w : World} {g b : Nat} {L : List St} (h : d_ w g b L) : Calls prog 126 #[.pointer (some ⟨g, 0, none⟩)] w (qS w (dN L)) := by
 have HM := af (fU h.c0);have HH := af h;have P8 := h.ok.len;have Bn := af h.ok;clear h;go_enter func126, ntmps126
 go_wp2_with fail
 refine HM.out.mono ?_;rintro e X ⟨rfl, kg⟩;have hX := HH.out.aU kg (fun e => e) (fun e => e);have c0 := hX.c0;obtain ⟨D, hD⟩ := hX.map;have hlen := hD.map.len ael 3;rw [hD.rd.size] at hlen;have HX := af hX;have qQ := af (ak.aZ (acG _ _) kg (fun k e => e.elim));clear hX hD kg;have Kc := af (bh (By.nil X) (by simp) (L.length : Int) L.length (by omega) (by unfold lim; omega));go_wp2_with fail
 refine Kc.out.mono ?_;rintro e w2 ⟨v2, rfl, eX, aP⟩;obtain ⟨p2, n2, c2, rfl⟩ := eX.bp.sl;have jO : Hid (Own X.heap.size w2 (.slice p2 n2 c2) (digits L.length)) := af (by simpa using eX);have HT2 := af (HX.out.below aP);have cE := af (qQ.out.trans (aP.mono qQ.out.size));have abK := af aP.size;clear eX aP Kc;go_wp2_with fail
 refine (j8 HT2.out).mono ?_;rintro e w3 ⟨v3, rfl, kY, cF⟩;obtain ⟨p3, n3, c3, rfl⟩ := kY.nP.sl;obtain rfl : n3 = L.length := kY.nP.len.1;have sW := af kY;have fH := af (cE.out.trans (cF.mono cE.out.size));have abL := af (jO.out.below cF);have il := af (acN abK.out cF.size);clear kY cF;go_wp2;go_loopw [3, 18] (fun v i wr => ∃ k : Nat, k ≤ L.length ∧ i = .int .i64 k ∧ (∃ p n c, v = .slice p n c) ∧ Hid (Own X.heap.size wr v (digits L.length ++ (L.take k).flatMap cP) ∧ Below w3.heap.size w3 wr)) (fun _ i _ => L.length - (intOf i).toNat)
 case atStart => exact ⟨0, by omega, rfl, ⟨_, _, _, rfl⟩, af ⟨by simpa using abL.out, acG _ _⟩⟩
 case round =>
  obtain ⟨k, hk, rfl, ⟨p4, n4, c4, rfl⟩, HR⟩ := hrel;by_cases bd : k < L.length
  ·obtain ⟨y, hy⟩ : ∃ y, L[k]? = some y := ⟨_, acF bd⟩
   obtain ⟨gd, o, rfl, hc⟩ := sW.out.nP.at_ (by omega);have hd := (hc k y hy).below HR.out.2;have d0 := hd.c0;have d1 := hd.c1;have d2 := hd.c2;have d3 := hd.c3;have d4 := hd.c4;have d5 := hd.c5;have d6 := hd.c6;have d7 := hd.c7;have d8 := hd.c8;have d9 := hd.c9;have QE := hd.c10;have Gy : y ∈ L := acS hy;have nU := Bn.out.ok y Gy;have iB := af (C2 hy (digits L.length));have Nh := u_ nU;have vb : (digits L.length ++ (L.take k).flatMap cP).length ≤ 1000 := by
    have h1 := va (L := L.take k) fun x hx => Bn.out.ok x (adD hx);have h2 := digits_length L.length (by omega);rw [acH];rw [ac6] at h1;omega
   have HBO := af (fun w => su w nU);obtain ⟨m4, GR⟩ : ∃ m4, digits L.length ++ (L.take k).flatMap cP = m4 := ⟨_, rfl⟩
   obtain ⟨bp, YT⟩ : ∃ bp, cP y = bp := ⟨_, rfl⟩
   rw [GR] at iB vb HR;rw [YT] at iB Nh HBO;have De := af (acD vb Nh);clear hd hc hy Gy nU GR YT vb Nh;obtain ⟨s, q, a, ⟨e1, e2, e3, e4, e5, e6, e7, e8⟩⟩ := y;unfold nC at HBO;dsimp only at *;obtain ⟨Y, hY⟩ : ∃ Y, wr.alloc (.cells #[.int .i64 s, .int .i64 q, .int .i64 a, .int .i64 e1, .int .i64 e2, .int .i64 e3, .int .i64 e4, .int .i64 e5, .int .i64 e6, .int .i64 e7, .int .i64 e8] 84) = Y := ⟨_, rfl⟩
   have fF : Below wr.heap.size wr Y := by rw [← hY]; exact (acG _ _).alloc (acE _) _
   have df : ∀ i v, #[Value.int .i64 s, .int .i64 q, .int .i64 a, .int .i64 e1, .int .i64 e2, .int .i64 e3, .int .i64 e4, .int .i64 e5, .int .i64 e6, .int .i64 e7, .int .i64 e8][i]? = some v → Y.cell? ⟨wr.heap.size, i, none⟩ = some v := fun i v hi => by rw [← hY, adX]; exact hi
   have y0 : Y.cell? ⟨wr.heap.size, 0, none⟩ = some (.int .i64 s) := df 0 _ rfl;have y1 : Y.cell? ⟨wr.heap.size, 1, none⟩ = some (.int .i64 q) := df 1 _ rfl;have y2 : Y.cell? ⟨wr.heap.size, 2, none⟩ = some (.int .i64 a) := df 2 _ rfl;have y3 : Y.cell? ⟨wr.heap.size, 3, none⟩ = some (.int .i64 e1) := df 3 _ rfl;have y4 : Y.cell? ⟨wr.heap.size, 4, none⟩ = some (.int .i64 e2) := df 4 _ rfl;have y5 : Y.cell? ⟨wr.heap.size, 5, none⟩ = some (.int .i64 e3) := df 5 _ rfl;have y6 : Y.cell? ⟨wr.heap.size, 6, none⟩ = some (.int .i64 e4) := df 6 _ rfl;have y7 : Y.cell? ⟨wr.heap.size, 7, none⟩ = some (.int .i64 e5) := df 7 _ rfl;have y8 : Y.cell? ⟨wr.heap.size, 8, none⟩ = some (.int .i64 e6) := df 8 _ rfl;have y9 : Y.cell? ⟨wr.heap.size, 9, none⟩ = some (.int .i64 e7) := df 9 _ rfl;have y10 : Y.cell? ⟨wr.heap.size, 10, none⟩ = some (.int .i64 e8) := df 10 _ rfl;have UL := af (acD (HR.out.1.below fF) (HR.out.2.trans (fF.mono HR.out.2.size)));clear df fF;go_wp2_with fail
   refine (HBO.out _).mono ?_;rintro e w5 ⟨v5, rfl, bP, aL⟩;obtain ⟨p7, n7, c7, rfl⟩ := bP.bp.sl;have HP := af (IG (UL.out.1.below aL).bp bP.bp);have cH := af (UL.out.2.trans (aL.mono UL.out.2.size));have hj := af (tH HP.out (by have := De.out; simp [Lib.lens]; omega) (by simp));clear bP aL;go_wp2_with fail
   refine hj.out.mono ?_;rintro e w6 ⟨v6, rfl, cw, bK⟩;obtain ⟨p6, n6, c6, rfl⟩ := cw.bp.sl;have oL := af ((cH.out.alloc cH.out.size (.cells #[.slice p4 n4 c4, .slice p7 n7 c7] 32)).trans (bK.mono (by have := cH.out.size; simp; omega)));have wZ : Hid (Own X.heap.size w6 (.slice p6 n6 c6) (m4 ++ bp)) := af (by
    have := cw.mono (B' := X.heap.size) (by have := cH.out.size; have := il.out; simp; omega)
    simpa using this)
   clear cw bK hj;go_wp2;go_roundw;case rel => exact ⟨k + 1, by omega, by go_num, ⟨_, _, _, rfl⟩, af ⟨by rw [iB.out]; exact wZ.out, oL.out⟩⟩
   case measure => simp [intOf]; omega
  ·go_wp2;go_ret;have e : L.take k = L := acY (by omega);have ho := HR.out.1;rw [e] at ho;exact ⟨_, rfl, ho.mono qQ.out.size, fH.out.trans (HR.out.2.mono fH.out.size)⟩
end Go.Proofs.YtionbmlicmibgaaGreatDoor
