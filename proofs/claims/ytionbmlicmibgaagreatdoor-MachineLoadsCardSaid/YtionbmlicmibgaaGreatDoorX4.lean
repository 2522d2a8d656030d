import Derived.StillTailTactics
import Derived.Test.YtionbmlicmibgaaGreatDoorX3
import Derived.Test.YtionbmlicmibgaaGreatDoorS15d
set_option linter.unusedVariables false
set_option linter.unusedSimpArgs false
namespace Go.Proofs.YtionbmlicmibgaaGreatDoor
open Go.Proofs.Tryz
set_option maxRecDepth 200000
set_option maxHeartbeats 8000000
open Go.RowKit
theorem dJ.all {w : World} {g o : Nat} {x : St} (h : dJ w g o x) : w.cell? ⟨g, o, none⟩ = some (.int .i64 x.s) ∧ w.cell? ⟨g, o + 1, none⟩ = some (.int .i64 x.q) ∧ w.cell? ⟨g, o + 2, none⟩ = some (.int .i64 x.a) ∧ w.cell? ⟨g, o + 3, none⟩ = some (.int .i64 x.r.er) ∧ w.cell? ⟨g, o + 4, none⟩ = some (.int .i64 x.r.rs) ∧ w.cell? ⟨g, o + 5, none⟩ = some (.int .i64 x.r.gn) ∧ w.cell? ⟨g, o + 6, none⟩ = some (.int .i64 x.r.ad) ∧ w.cell? ⟨g, o + 7, none⟩ = some (.int .i64 x.r.sa) ∧ w.cell? ⟨g, o + 8, none⟩ = some (.int .i64 x.r.ot) ∧ w.cell? ⟨g, o + 9, none⟩ = some (.int .i64 x.r.cy) ∧ w.cell? ⟨g, o + 10, none⟩ = some (.int .i64 x.r.fu) :=
 ⟨h 0 _ rfl, h 1 _ rfl, h 2 _ rfl, h 3 _ rfl, h 4 _ rfl, h 5 _ rfl, h 6 _ rfl, h 7 _ rfl, h 8 _ rfl, h 9 _ rfl, h 10 _ rfl⟩
theorem dJ.box (w : World) (x : St) : dJ (w.alloc (.cells #[.int .i64 x.s, .int .i64 x.q, .int .i64 x.a, .int .i64 x.r.er, .int .i64 x.r.rs, .int .i64 x.r.gn, .int .i64 x.r.ad, .int .i64 x.r.sa, .int .i64 x.r.ot, .int .i64 x.r.cy, .int .i64 x.r.fu] 84)) w.heap.size 0 x := fun k u hk => by
 rw [adX, ac2];unfold mN at hk
 simpa using hk
def Aj (w : World) (t : Bool) (e : Ending) (w' : World) : Prop := e = .returned (.int .i64 (if t then 0 else 1)) ∧ Below w.heap.size w w'
def yC (w0 w : World) (l : List Int) (e : Ending) (w' : World) : Prop := ∃ g, e = .returned (.slice (some ⟨g, 0, none⟩) 8 8) ∧ mO w' g l ∧ w0.heap.size ≤ g ∧ Below w0.heap.size w w'
theorem mP (w : World) (x : Rp) : Calls prog 158 #[wY x] w (yC w w x.nums) := by
 obtain ⟨e1, e2, e3, e4, e5, e6, e7, e8⟩ := x;unfold wY;dsimp only;go_enter func158, ntmps158
 go_wp2;go_ret;exact ⟨_, rfl, CW _ [e1, e2, e3, e4, e5, e6, e7, e8] (by simp), by omega, ((acG _ _).alloc (acE _) _).alloc (by simp) _⟩
theorem kN (w : World) (x : Rp) : Calls prog 118 #[wY x] w (Aj w x.ok) := by
 have HN := fun w => mP w x;obtain ⟨l, hl⟩ : ∃ l, x.nums = l := ⟨_, rfl⟩
 have r_ : l.length = 8 := by rw [← hl]; rfl
 have HT : Hid (x.ok = l.all n40) := af (by rw [← hl]; rfl);rw [hl] at HN;obtain ⟨t, ht⟩ : ∃ t, x.ok = t := ⟨_, rfl⟩
 rw [ht] at HT ⊢;clear hl ht;obtain ⟨e1, e2, e3, e4, e5, e6, e7, e8⟩ := x;unfold wY at *;dsimp only at *;have HL := af r_;clear r_;go_enter func118, ntmps118
 go_wp2_with fail
 refine (HN _).mono ?_;rintro e w1 ⟨g, rfl, hn, hg, hb⟩;have HG := af (((acG w.heap.size w).alloc (acE _) _).trans (hb.mono (by simp)));clear hb hg;go_wp2;go_loop [8] (fun i => ∃ k : Nat, k ≤ 8 ∧ i = .int .i64 k ∧ Hid (l.all n40 = (l.drop k).all n40)) (fun i => 8 - (intOf i).toNat)
 case atStart => exact ⟨0, by omega, rfl, af rfl⟩
 case round =>
  obtain ⟨k, hk, rfl, HK⟩ := hrel;by_cases bd : k < 8
  ·have qK : k < l.length := by have := HL.out; omega
   obtain ⟨n, sF⟩ : ∃ n, l[k]? = some n := ⟨_, acF qK⟩
   have hc := hn k n sF;have HD := af (pQ sF);by_cases h0 : n < 0
   ·have HF : Hid (t = false) := af (by rw [HT.out, HK.out, HD.out, GA h0]; rfl);clear sF qK;go_wp2;go_ret;exact ⟨by simp only [HF.out]; rfl, HG.out⟩
   ·by_cases h1 : n > 1099511627776
    ·have HF : Hid (t = false) := af (by rw [HT.out, HK.out, HD.out, GB h1]; rfl);clear sF qK;go_wp2;go_ret;exact ⟨by simp only [HF.out]; rfl, HG.out⟩
    ·have HY : Hid (l.all n40 = (l.drop (k + 1)).all n40) := af (by rw [HK.out, HD.out, iL.2 ⟨by omega, by omega⟩]; rfl);clear sF qK;go_wp2;go_round
     case rel => exact ⟨k + 1, by omega, by go_num, HY⟩
     case measure => simp [intOf]; omega
  ·have HF : Hid (t = true) := af (by rw [HT.out, HK.out, List.drop_of_length_le (by have := HL.out; omega)]; rfl);go_wp2;go_ret;exact ⟨by simp only [HF.out]; rfl, HG.out⟩
structure jh (w : World) (gx : Nat) (v : Value) (L : List St) : Prop where
 row : w.heap[gx]? = some (.cells #[v] 136 (0, 0))
 own : dX (gx + 1) w v L
theorem jh.lt {w : World} {gx : Nat} {v : Value} {L : List St} (h : jh w gx v L) : gx < w.heap.size := (acJ.1 h.row).1
theorem jh.below {w w' : World} {gx : Nat} {v : Value} {L : List St} (h : jh w gx v L) (hb : Below w.heap.size w w') : jh w' gx v L :=
 ⟨(hb.block gx h.lt).trans h.row, h.own.below hb⟩
theorem jh.c0 {w : World} {gx : Nat} {v : Value} {L : List St} (h : jh w gx v L) : w.cell? ⟨gx, 0, none⟩ = some v := by
 rw [acC w gx 0 _ 136 (0, 0) h.row];rfl
def JK (L : List St) (n : Int) : Int := if (cK L n).isSome then ((L.findIdx fun x => x.s == n : Nat) : Int) else -1
theorem Qh {L : List St} {n : Int} {k : Nat} {x : St} (hk : L[k]? = some x) (hx : x.s = n) (h : ∀ j y, j < k → L[j]? = some y → y.s ≠ n) : JK L n = k := by
 obtain ⟨bd, rfl⟩ := acL.1 hk;have hs : (cK L n).isSome = true := by
  cases hf : cK L n with
  | none => exact absurd hx (iW.1 hf _ (List.getElem_mem bd))
  | some _ => rfl
 unfold JK;rw [acW hs]
 congr 1
 refine (List.findIdx_eq bd).2 ⟨by simpa using hx, fun j hj => ?_⟩;have := h j _ hj (acF (by omega))
 simpa using this
theorem JL {L : List St} {n : Int} (h : ∀ j y, j < L.length → L[j]? = some y → y.s ≠ n) : JK L n = -1 ∧ cK L n = none := by
 have hf : cK L n = none := iW.2 fun x hx => by
  obtain ⟨j, hj, rfl⟩ := List.getElem_of_mem hx;exact h j _ hj (acF hj)
 exact ⟨by unfold JK; rw [hf]; rfl, hf⟩
theorem VZ {w : World} {gx : Nat} {v : Value} {L : List St} (h : jh w gx v L) (hL : L.length ≤ 8) (n : Int) : Calls prog 113 #[.pointer (some ⟨gx, 0, none⟩), .int .i64 n] w fun e w' => e = .returned (.int .i64 (JK L n)) ∧ w = w' := by
 have II := h.c0;have HO := af h.own.nP;obtain ⟨p, m, c, rfl⟩ := h.own.nP.sl;obtain rfl : m = L.length := h.own.nP.len.1;obtain ⟨r, hr⟩ : ∃ r, JK L n = r := ⟨_, rfl⟩
 rw [hr];have HR := af hr;clear h hr;go_enter func113, ntmps113
 go_wp2;go_loop [11] (fun i => ∃ k : Nat, k ≤ L.length ∧ i = .int .i64 k ∧ Hid (∀ j y, j < k → L[j]? = some y → y.s ≠ n)) (fun i => L.length - (intOf i).toNat)
 case atStart => exact ⟨0, by omega, rfl, af fun j y hj => by omega⟩
 case round =>
  obtain ⟨k, hk, rfl, HK⟩ := hrel;by_cases bd : k < L.length
  ·obtain ⟨y, hy⟩ : ∃ y, L[k]? = some y := ⟨_, acF bd⟩
   obtain ⟨g, o, rfl, hc⟩ := HO.out.at_ (by omega);have d0 := (hc k y hy).c0;have HY := af hy;clear hc hy;obtain ⟨ys, Rs⟩ : ∃ ys, y.s = ys := ⟨_, rfl⟩
   rw [Rs] at d0;have Ve := af Rs;clear Rs;by_cases he : ys = n
   ·have HE : Hid (r = (k : Int)) := af (by rw [← HR.out]; exact Qh HY.out (Ve.out.trans he) HK.out);subst he;go_wp2;go_ret;exact ⟨by rw [HE.out]; rfl, rfl⟩
   ·have HN : Hid (∀ j y, j < k + 1 → L[j]? = some y → y.s ≠ n) := af fun j z hj hz => by
     rcases Nat.lt_succ_iff_lt_or_eq.1 hj with h | rfl
     ·exact HK.out j z h hz
     ·have := HY.out.symm.trans hz;injection this with this;rw [← this, Ve.out];exact he
    have he' : (ys == n) = false := by simpa using he
    go_wp2;go_round
    case rel => exact ⟨k + 1, by omega, by go_num, HN⟩
    case measure => simp [intOf]; omega
  ·have HE : Hid (r = -1) := af (by rw [← HR.out]; exact (JL fun j y hj hy => HK.out j y (by omega) hy).1);go_wp2;go_ret;exact ⟨by rw [HE.out]; rfl, rfl⟩
theorem hJ.slT {B : Nat} {w : World} {v : Value} {l : List Int} (h : hJ B w v l) : ∃ p n c, v = .slice p n c := by
 obtain ⟨_, ⟨rfl, _⟩ | ⟨g, cap, cur, rfl, _⟩⟩ := h
 ·exact ⟨_, _, _, rfl⟩
 ·exact ⟨_, _, _, rfl⟩
theorem hJ.below {B : Nat} {w w' : World} {v : Value} {l : List Int} (h : hJ B w v l) (hb : Below w.heap.size w w') : hJ B w' v l := adV (row := none) h ⟨hb.os, hb.tape, hb.output, hb.size, fun k hk _ => hb.block k hk⟩ (by cases v.ownBlock <;> simp)
theorem Tryz.infoInt : (Tryz.prog.info? 3).map (fun i => (i.zero, i.size, i.bytes)) = some (some (.int .i64 0), 1, 8) := by kernel_rfl
theorem C6 {B : Nat} {w : World} {v : Value} {l m : List Int} {g : Nat} (h : hJ B w v l) (hm : mO w g m) (hB : B ≤ w.heap.size) (hs : l.length + m.length ≤ 1100000) :
  ∃ v' w', (Builtin.append_ #[23, 23] 23 #[v, .slice (some ⟨g, 0, none⟩) m.length m.length]).run prog w = .ok v' w' ∧ hJ B w' v' (l ++ m) ∧ Below B w w' ∧ w.grownBy w' v.ownBlock := by
 obtain ⟨i0, eV, gu, fC, fD⟩ := adM Tryz.infoInt;obtain ⟨v', w', hr, h1, h2, _, h4⟩ := adK (P := prog) w B 23 23 3 i0 _ 1 8 ae5 eV gu fC fD rfl (by decide) v l.length (l.map (Value.int .i64)) h ⟨g, 0, none⟩ m.length m.length (m.map (Value.int .i64)) (by simp)
  (fun j u hj => by
   rw [adS] at hj;obtain ⟨x, hx, rfl⟩ := aey.1 hj;rw [bq, ac2];exact hm j x hx)
  (fun u hu => by
   obtain ⟨x, _, rfl⟩ := ads.1 hu;rfl) (by simp only [maxLen]; omega) (by omega) hB
 refine ⟨v', w', hr, ?_, (acG _ _).grown h2 hB fun k hk => (adA h k hk).1, h2⟩;unfold hJ;rw [aed, acH];exact h1
theorem qV {w : World} {ops : Array Oper} {o : Oper} {a : Act} {K : Act → World → Prop} {Q : Exit → Act → World → Prop} {E : Prop} (kS : o.guard = none) (s x : Operand)
  (ho : o.op = .call { callee := .builtin .append, args := #[s, x], argTypes := #[23, 23] }) (hty : o.type = 23) {v u v' : Value} {w' : World}
  (hs : a.eval s = v) (hx : a.eval x = u) (hr : (Builtin.append_ #[23, 23] 23 #[v, u]).run prog w = .ok v' w')
  (h : K (a.put o.dst v') w') : if Region.wanted o (yielded ops a.tmps) = true then Oper.wp prog o a w K Q else E := by
 have hw : Region.wanted o (yielded ops a.tmps) = true := by simp [Region.wanted, kS]
 rw [acW hw];exact Lib.wp_append_run_sl w s x 23 ho v u hs hx (by rw [hty]; exact hr) h
theorem pU {V : World} {ops : Array Oper} {o : Oper} {a : Act} {K : Act → World → Prop} {Q : Exit → Act → World → Prop} {E : Prop} (kS : o.guard = none) (s x : Operand)
  (ho : o.op = .call { callee := .builtin .append, args := #[s, x], argTypes := #[23, 23] }) (hty : o.type = 23) {B : Nat} {v u : Value} {l m : List Int} {g : Nat}
  (hs : a.eval s = v) (hx : a.eval x = u) (hu : u = .slice (some ⟨g, 0, none⟩) m.length m.length) (h : hJ B V v l) (hm : mO V g m) (hB : B ≤ V.heap.size) (hn : l.length + m.length ≤ 1100000)
  (hK : ∀ v' V', hJ B V' v' (l ++ m) → Below B V V' → V.grownBy V' v.ownBlock → K (a.put o.dst v') V') : if Region.wanted o (yielded ops a.tmps) = true then Oper.wp prog o a V K Q else E := by
 subst hu;obtain ⟨v', w', hr, h1, h2, h3⟩ := C6 h hm hB hn;exact qV kS s x ho hty hs hx hr (hK v' w' h1 h2 h3)
theorem mO.below {w w' : World} {g : Nat} {l : List Int} (h : mO w g l) (hb : Below w.heap.size w w') : mO w' g l := fun i n hi => (hb.cell (lt_of_cell (h i n hi))).trans (h i n hi)
theorem C8 (V : World) (s q a : Int) : hJ V.heap.size (V.alloc (.cells #[.int .i64 s, .int .i64 q, .int .i64 a] 3)) (.slice (some ⟨V.heap.size, 0, none⟩) 3 3) [s, q, a] := afi V #[.int .i64 s, .int .i64 q, .int .i64 a] 3 (acE _) (by decide) rfl
theorem o6 {w : World} {gx : Nat} {v : Value} {L : List St} (h : jh w gx v L) (hT : dS L) : Calls prog 121 #[.pointer (some ⟨gx, 0, none⟩)] w (qS w (dN L)) := by
 have HH := af h;have Bn := af hT;have P8 := hT.len;have c0 := h.c0;obtain ⟨pv, nv, cv, rfl⟩ := h.own.nP.sl;obtain rfl : nv = L.length := h.own.nP.len.1;clear h hT;have Kc := af (gQ (By.nil w) (by simp) (L.length : Int) L.length (by omega) (by unfold lim; omega));go_enter func121, ntmps121
 go_wp2_with fail
 refine Kc.out.mono ?_;rintro e w2 ⟨v2, rfl, eX, aP⟩;have jO : Hid (Own w.heap.size w2 v2 (digits L.length)) := af (by have := Own.iX eX; simpa using this);obtain ⟨p2, n2, c2, rfl⟩ := jO.out.bp.sl;have rh := af (HH.out.below aP);have c02 := rh.out.c0;have cE := af aP;clear eX aP Kc;go_wp2;go_loopw [3, 19] (fun v i wr => ∃ k : Nat, k ≤ L.length ∧ i = .int .i64 k ∧ (∃ p n c, v = .slice p n c) ∧ Hid (Own w.heap.size wr v (digits L.length ++ (L.take k).flatMap cP) ∧ Below w2.heap.size w2 wr)) (fun _ i _ => L.length - (intOf i).toNat)
 case atStart => exact ⟨0, by omega, rfl, ⟨_, _, _, rfl⟩, af ⟨by simpa using jO.out, acG _ _⟩⟩
 case round =>
  obtain ⟨k, hk, rfl, ⟨p4, n4, c4, rfl⟩, HR⟩ := hrel;by_cases bd : k < L.length
  ·obtain ⟨y, hy⟩ : ∃ y, L[k]? = some y := ⟨_, acF bd⟩
   obtain ⟨gd, o, rfl, hc⟩ := rh.out.own.nP.at_ (by omega);obtain ⟨d0, d1, d2, d3, d4, d5, d6, d7, d8, d9, QE⟩ := ((hc k y hy).below HR.out.2).all;have Gy : y ∈ L := acS hy;have nU := Bn.out.ok y Gy;have iB := af (C2 hy (digits L.length));have HYN : Hid (∀ z ∈ y.nums, n40 z = true) := af (by
    have h2 : y.tell = true := by unfold St.ok at nU; simp at nU; exact nU.2
    exact fun n hn => adl.1 h2 n hn)
   have vb : (digits L.length ++ (L.take k).flatMap cP).length ≤ 1000 := by
    have h1 := va (L := L.take k) fun x hx => Bn.out.ok x (adD hx);have h2 := digits_length L.length (by omega);rw [acH];rw [ac6] at h1;omega
   obtain ⟨m4, GR⟩ : ∃ m4, digits L.length ++ (L.take k).flatMap cP = m4 := ⟨_, rfl⟩
   rw [GR] at iB vb HR;have De := af vb;clear hc hy Gy nU GR vb;obtain ⟨s, q, a, ⟨e1, e2, e3, e4, e5, e6, e7, e8⟩⟩ := y;dsimp only at d0 d1 d2 d3 d4 d5 d6 d7 d8 d9 QE;obtain ⟨nums, C9⟩ : ∃ nums, St.nums ⟨s, q, a, ⟨e1, e2, e3, e4, e5, e6, e7, e8⟩⟩ = nums := ⟨_, rfl⟩
   have vV : nums.length = 11 := by rw [← C9]; rfl
   have jd : Hid ([s, q, a] ++ Rp.nums ⟨e1, e2, e3, e4, e5, e6, e7, e8⟩ = nums) := af (by rw [← C9]; rfl);have Se : Hid (cP ⟨s, q, a, ⟨e1, e2, e3, e4, e5, e6, e7, e8⟩⟩ = jA nums) := af (by rw [← C9]; rfl);rw [C9] at HYN;have NC := af vV;clear C9 vV;obtain ⟨Y, hY⟩ : ∃ Y, wr.alloc (.cells #[.int .i64 s, .int .i64 q, .int .i64 a, .int .i64 e1, .int .i64 e2, .int .i64 e3, .int .i64 e4, .int .i64 e5, .int .i64 e6, .int .i64 e7, .int .i64 e8] 84) = Y := ⟨_, rfl⟩
   have fF : Below wr.heap.size wr Y := by rw [← hY]; exact (acG _ _).alloc (acE _) _
   have hdY : dJ Y wr.heap.size 0 ⟨s, q, a, ⟨e1, e2, e3, e4, e5, e6, e7, e8⟩⟩ := by rw [← hY]; exact dJ.box wr _
   have UL := af (acD (HR.out.1.below fF) (HR.out.2.trans (fF.mono HR.out.2.size)));have eJ : Hid (∀ V, Below Y.heap.size Y V → V.cell? ⟨wr.heap.size, 0, none⟩ = some (.int .i64 s) ∧ V.cell? ⟨wr.heap.size, 1, none⟩ = some (.int .i64 q) ∧ V.cell? ⟨wr.heap.size, 2, none⟩ = some (.int .i64 a) ∧ V.cell? ⟨wr.heap.size, 3, none⟩ = some (.int .i64 e1) ∧ V.cell? ⟨wr.heap.size, 4, none⟩ = some (.int .i64 e2) ∧ V.cell? ⟨wr.heap.size, 5, none⟩ = some (.int .i64 e3) ∧ V.cell? ⟨wr.heap.size, 6, none⟩ = some (.int .i64 e4) ∧ V.cell? ⟨wr.heap.size, 7, none⟩ = some (.int .i64 e5) ∧ V.cell? ⟨wr.heap.size, 8, none⟩ = some (.int .i64 e6) ∧ V.cell? ⟨wr.heap.size, 9, none⟩ = some (.int .i64 e7) ∧ V.cell? ⟨wr.heap.size, 10, none⟩ = some (.int .i64 e8)) := af fun V hV => by
    have := (hdY.below hV).all
    simpa only [ac2] using this
   have Es : Hid (∀ V, Calls prog 158 #[.agg #[.int .i64 e1, .int .i64 e2, .int .i64 e3, .int .i64 e4, .int .i64 e5, .int .i64 e6, .int .i64 e7, .int .i64 e8]] V (yC V V (Rp.nums ⟨e1, e2, e3, e4, e5, e6, e7, e8⟩))) := af fun V => mP V ⟨e1, e2, e3, e4, e5, e6, e7, e8⟩;have Df : Hid (Below Y.heap.size Y (Y.alloc (.cells #[.int .i64 s, .int .i64 q, .int .i64 a] 3)).drew) := af (((acG Y.heap.size Y).alloc (acE _) _).trans (ag _ 1));have HDR : Hid (Below Y.heap.size Y Y.drew) := af (ag Y 1);have U2 : Hid (hJ Y.heap.size (Y.alloc (.cells #[.int .i64 s, .int .i64 q, .int .i64 a] 3)).drew (.slice (some ⟨Y.heap.size, 0, none⟩) 3 3) [s, q, a]) := af (C8 Y s q a);have HYW : Hid (wr.heap.size < Y.heap.size) := af (by rw [← hY]; simp);have HY := af hY;clear fF hdY hY;go_wp2_with fail
   rw [HY.out];go_region_held3 (fun V => V.cell? ⟨wr.heap.size, 0, none⟩ = some (.int .i64 s) ∧ V.cell? ⟨wr.heap.size, 1, none⟩ = some (.int .i64 q) ∧ V.cell? ⟨wr.heap.size, 2, none⟩ = some (.int .i64 a) ∧ V.cell? ⟨wr.heap.size, 3, none⟩ = some (.int .i64 e1) ∧ V.cell? ⟨wr.heap.size, 4, none⟩ = some (.int .i64 e2) ∧ V.cell? ⟨wr.heap.size, 5, none⟩ = some (.int .i64 e3) ∧ V.cell? ⟨wr.heap.size, 6, none⟩ = some (.int .i64 e4) ∧ V.cell? ⟨wr.heap.size, 7, none⟩ = some (.int .i64 e5) ∧ V.cell? ⟨wr.heap.size, 8, none⟩ = some (.int .i64 e6) ∧ V.cell? ⟨wr.heap.size, 9, none⟩ = some (.int .i64 e7) ∧ V.cell? ⟨wr.heap.size, 10, none⟩ = some (.int .i64 e8))
    (first | exact eJ.out _ HDR.out | exact eJ.out _ Df.out | exact eJ.out _ bG | exact eJ.out _ (bG.alloc bG.size _))
    ((first
     | (go_at_call 158; refine (Es.out _).mono ?_; rintro e7 w7 ⟨g8, rfl, yV, zG, kn⟩; have bG : Below Y.heap.size Y w7 := (by first | exact Df.out.trans (kn.mono Df.out.size) | exact HDR.out.trans (kn.mono HDR.out.size)); have H8 := af (acD yV kn); clear yV kn)
     | (refine pU (by rfl) _ _ (by rfl) (by rfl) (by rfl) (by rfl) rfl (U2.out.below H8.out.2) H8.out.1 bG.size (by simp [Rp.nums]) ?_; intro v9 V9 gE eW ni; have bG := bG.trans eW; obtain ⟨p9, n9, c9, rfl⟩ := gE.slT)
     | (refine pU (by rfl) _ _ (by rfl) (by rfl) (by rfl) (by rfl) rfl (C8 w7 s q a) (H8.out.1.below ((acG _ _).alloc (acE _) _)) (by simp) (by simp [Rp.nums]) ?_; intro v9 V9 gE eW ni; have bG := (bG.alloc bG.size (.cells #[.int .i64 s, .int .i64 q, .int .i64 a] 3)).trans (eW.mono bG.size); obtain ⟨p9, n9, c9, rfl⟩ := gE.slT)))
   all_goals
    have aM := gE;unfold hJ at aM;rw [jd.out] at aM;obtain ⟨p10, c10, e10, abO, abP, zW⟩ := fL aM;injection e10 with e1_ e2_ e3_;subst e1_ e3_;have Wx : Hid (n9 = 11) := af (e2_.trans NC.out);have Oq : n9 ≤ 11 := by have := Wx.out; omega
    clear e2_;rw [NC.out] at zW;obtain ⟨g10, rfl, Ai, hcc⟩ := zW (by omega);have HCC := af hcc;have UN := af (UL.out.2.trans (bG.mono UL.out.2.size));have WU := af (UL.out.1.below bG);have abQ := af Ai;clear aM abO abP zW hcc gE eW ni bG Ai;go_wp2;go_loopw [3, 35] (fun v i wq => ∃ j : Nat, j ≤ n9 ∧ i = .int .i64 j ∧ (∃ p n c, v = .slice p n c) ∧ Hid (Own w.heap.size wq v (m4 ++ jA (nums.take j)) ∧ Below V9.heap.size V9 wq)) (fun _ i _ => n9 - (intOf i).toNat)
    case atStart => exact ⟨0, by omega, rfl, ⟨_, _, _, rfl⟩, af ⟨by simpa [jA] using WU.out, acG _ _⟩⟩
    case round =>
     obtain ⟨j, hj, rfl, ⟨p6, n6, c6, rfl⟩, HQ⟩ := hrel;by_cases Z0 : j < n9
     ·have Zh : j < nums.length := by have := NC.out; have := Wx.out; omega
      obtain ⟨z, hz⟩ : ∃ z, nums[j]? = some z := ⟨_, acF Zh⟩
      have zw := HCC.out j z hz;have Pw := (HQ.out.2.cell (p := ⟨g10, j, none⟩) abQ.out).trans zw;have HTJ := af (uZ hz);have abR := iL.1 (HYN.out z (acS hz));have hlen : (m4 ++ jA (nums.take j)).length ≤ 140737488000000 := by
       have h1 := qR (nums.take j) fun n hn => HYN.out n (adD hn);have h2 := De.out;rw [acH];rw [ac6] at h1;omega
      have Kc := af (gQ HQ.out.1.bp hlen z z.toNat (by omega) (by unfold lim; omega));clear hz Zh zw hlen abR;go_wp2_with fail
      refine Kc.out.mono ?_;rintro e oI ⟨v11, rfl, Zi, Oi⟩;have Zj := af ((Own.iX Zi).mono (B' := w.heap.size) (by have := HQ.out.2.size; have := UN.out.size; have := cE.out.size; omega));obtain ⟨p11, n11, c11, rfl⟩ := Zj.out.bp.sl;have abS := af (HQ.out.2.trans (Oi.mono HQ.out.2.size));clear Zi Oi Kc;go_wp2;go_roundw;case rel => exact ⟨j + 1, by omega, by go_num, ⟨_, _, _, rfl⟩, af ⟨by rw [HTJ.out, ← ac7]; exact Zj.out, abS.out⟩⟩
      case measure => simp [intOf]; omega
     ·have e : nums.take j = nums := acY (by have := NC.out; have := Wx.out; omega);have SQ := af HQ.out.1;rw [e, ← Se.out] at SQ;clear e;go_wp2;go_roundw;case rel => exact ⟨k + 1, by omega, by go_num, ⟨_, _, _, rfl⟩, af ⟨by rw [iB.out]; exact SQ.out, UN.out.trans (HQ.out.2.mono UN.out.size)⟩⟩
      case measure => simp [intOf]; omega
  ·go_wp2;go_ret;have e : L.take k = L := acY (by omega);have ho := HR.out.1;rw [e] at ho;exact ⟨_, rfl, ho, cE.out.trans (HR.out.2.mono cE.out.size)⟩
end Go.Proofs.YtionbmlicmibgaaGreatDoor
