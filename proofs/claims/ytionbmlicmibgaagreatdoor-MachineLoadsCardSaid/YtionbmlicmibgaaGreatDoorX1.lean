import Derived.Test.YtionbmlicmibgaaGreatDoorS9
set_option linter.unusedVariables false
set_option linter.unusedSimpArgs false
namespace Go.Proofs.YtionbmlicmibgaaGreatDoor
open Go.Proofs.Tryz
set_option maxRecDepth 200000
set_option maxHeartbeats 2000000
structure Rp where
 er : Int
 rs : Int
 gn : Int
 ad : Int
 sa : Int
 ot : Int
 cy : Int
 fu : Int
deriving DecidableEq
structure St where
 s : Int
 q : Int
 a : Int
 r : Rp
deriving DecidableEq
def iG : Rp := ⟨0, 0, 0, 0, 0, 0, 0, 0⟩
def RH : St := ⟨0, 0, 0, iG⟩
def n40 (n : Int) : Bool := decide (0 ≤ n) && decide (n ≤ 1099511627776)
theorem iL {n : Int} : n40 n = true ↔ 0 ≤ n ∧ n ≤ 1099511627776 := by unfold n40; simp
def Rp.nums (r : Rp) : List Int := [r.er, r.rs, r.gn, r.ad, r.sa, r.ot, r.cy, r.fu]
def St.nums (x : St) : List Int := [x.s, x.q, x.a, x.r.er, x.r.rs, x.r.gn, x.r.ad, x.r.sa, x.r.ot, x.r.cy, x.r.fu]
def Rp.ok (r : Rp) : Bool := r.nums.all n40
def St.tell (x : St) : Bool := x.nums.all n40
theorem St.P_ (x : St) : x.nums = [x.s, x.q, x.a] ++ x.r.nums := rfl
theorem St.Qa (x : St) : x.tell = (n40 x.s && n40 x.q && n40 x.a && x.r.ok) := by
 unfold St.tell Rp.ok;rw [St.P_, aeR];simp [Bool.and_assoc]
def c40 (n : Int) : Bool := decide (1 ≤ n) && decide (n ≤ 1099511627776)
theorem Ab {n : Int} : c40 n = true ↔ 1 ≤ n ∧ n ≤ 1099511627776 := by unfold c40; simp
def St.ok (x : St) : Bool := c40 x.s && c40 x.a && x.tell
theorem St.aO {x : St} : x.ok = true ↔ (1 ≤ x.s ∧ x.s ≤ 1099511627776) ∧ (0 ≤ x.q ∧ x.q ≤ 1099511627776) ∧ (1 ≤ x.a ∧ x.a ≤ 1099511627776) ∧ x.r.ok = true := by
 unfold St.ok;rw [St.Qa];simp only [adb, Ab, iL];constructor
 ·rintro ⟨⟨h1, h2⟩, ⟨⟨h3, h4⟩, h5⟩, h6⟩;exact ⟨h1, h4, h2, h6⟩
 ·rintro ⟨h1, h2, h3, h4⟩;exact ⟨⟨h1, h3⟩, ⟨⟨⟨by omega, h1.2⟩, h2⟩, by omega, h3.2⟩, h4⟩
def cK (L : List St) (k : Int) : Option St := L.find? fun x => x.s == k
theorem kM {L : List St} {k : Int} {x : St} (h : cK L k = some x) : x ∈ L ∧ x.s = k := by
 have h1 := List.find?_some h;exact ⟨aeG h, by simpa using h1⟩
theorem iW {L : List St} {k : Int} : cK L k = none ↔ ∀ x ∈ L, x.s ≠ k := by
 unfold cK;rw [aeP];simp
def fT (L : List St) : Prop := L.Pairwise fun x y => x.s < y.s
theorem fT.ids {L : List St} (h : fT L) : L.Pairwise fun x y => x.s ≠ y.s := List.Pairwise.imp (S := fun x y : St => x.s ≠ y.s) (fun {a b} (h : a.s < b.s) => by omega) (show L.Pairwise fun x y => x.s < y.s from h)
theorem iM {L : List St} (h : L.Pairwise fun x y => x.s ≠ y.s) {x : St} (hx : x ∈ L) : cK L x.s = some x := by
 induction L with
 | nil => simp at hx
 | cons y r ih =>
  rw [ac_] at h;unfold cK;rw [adx];rcases ac9.1 hx with rfl | hx
  ·simp
  ·have := h.1 x hx;simp only [adj.2 this];exact ih h.2 hx
def ig : List St → St → List St
 | [], x => [x]
 | y :: r, x => if x.s < y.s then x :: y :: r else if x.s = y.s then x :: r else y :: ig r x
theorem CV (L : List St) (x : St) (k : Int) : cK (ig L x) k = if x.s = k then some x else cK L k := by
 induction L with
 | nil =>
  unfold ig cK;by_cases h : x.s = k <;> simp [h]
 | cons y r ih =>
  unfold ig;by_cases h1 : x.s < y.s
  ·rw [acW h1];unfold cK;by_cases h : x.s = k <;> simp [adx, h]
  ·rw [acO h1];by_cases h2 : x.s = y.s
   ·rw [acW h2];unfold cK;by_cases h : x.s = k
    ·simp [adx, h]
    ·have : ¬ y.s = k := by omega
     simp [adx, h, this]
   ·rw [acO h2];unfold cK at ih ⊢;rw [adx, adx];by_cases h : y.s = k
    ·have : ¬ x.s = k := by omega
     simp [h, this]
    ·simp only [adj.2 h];exact ih
theorem M_ {L : List St} {x y : St} (h : y ∈ ig L x) : y = x ∨ (y ∈ L ∧ y.s ≠ x.s) ∨ y ∈ L := by
 induction L with
 | nil =>
  unfold ig at h;simp at h;exact .inl h
 | cons z r ih =>
  unfold ig at h
  split at h
  ·rcases ac9.1 h with h | h
   ·exact .inl h
   ·exact .inr (.inr h)
  ·split at h
   ·rcases ac9.1 h with h | h
    ·exact .inl h
    ·exact .inr (.inr (ade _ h))
   ·rcases ac9.1 h with h | h
    ·exact .inr (.inr (by rw [h]; exact ac8 ..))
    ·rcases ih h with h | ⟨h, _⟩ | h
     ·exact .inl h
     ·exact .inr (.inr (ade _ h))
     ·exact .inr (.inr (ade _ h))
theorem yx {L : List St} {x y : St} (h : y ∈ ig L x) : y = x ∨ y ∈ L := by
 rcases M_ h with h | ⟨h, _⟩ | h
 ·exact .inl h
 ·exact .inr h
 ·exact .inr h
theorem fT.ins {L : List St} (h : fT L) (x : St) : fT (ig L x) := by
 induction L with
 | nil => exact aeM _ _
 | cons y r ih =>
  obtain ⟨h1, h2⟩ := ac_.1 h;unfold ig
  split
  ·rename_i bd;refine ac_.2 ⟨fun z hz => ?_, h⟩;rcases ac9.1 hz with rfl | hz
   ·exact bd
   ·have := h1 z hz; omega
  ·split
   ·rename_i heq;exact ac_.2 ⟨fun z hz => by have := h1 z hz; omega, h2⟩
   ·refine ac_.2 ⟨fun z hz => ?_, ih h2⟩;rcases yx hz with rfl | hz
    ·omega
    ·exact h1 z hz
theorem rO {L : List St} (h : fT L) (x : St) : (ig L x).length = L.length + if (cK L x.s).isSome then 0 else 1 := by
 induction L with
 | nil => rfl
 | cons y r ih =>
  obtain ⟨h1, h2⟩ := ac_.1 h;unfold ig
  split
  ·rename_i bd;have : cK (y :: r) x.s = none := iW.2 fun z hz => by
    rcases ac9.1 hz with rfl | hz
    ·omega
    ·have := h1 z hz; omega
   rw [this];rfl
  ·split
   ·rename_i heq;have : cK (y :: r) x.s = some y := by
     unfold cK;rw [adx];simp [heq]
    rw [this];rfl
   ·rename_i aN;have : cK (y :: r) x.s = cK r x.s := by
     unfold cK;rw [adx];have : ¬ y.s = x.s := fun e => aN e.symm;simp only [adj.2 this]
    rw [this, acZ, ih h2, acZ];omega
structure dS (L : List St) : Prop where
 rises : fT L
 len : L.length ≤ 8
 ok : ∀ x ∈ L, x.ok = true
theorem dS.nil : dS [] := ⟨aek, by simp, fun x h => by simp at h⟩
def iC (L : List St) (at_ : Int) : Int × List St :=
 if (cK L at_).isSome || !c40 at_ then (1, L) else if 8 ≤ L.length then (7, L) else (0, ig L ⟨at_, 0, at_, iG⟩)
def gy (L : List St) (s q : Int) : Rp × Bool × Int := match cK L s with
 | none => (iG, false, 80)
 | some x => if q < x.q ∨ q < 1 then (iG, false, 81) else if q = x.q then (x.r, true, 0) else if x.q + 1 < q then (iG, false, 82) else (iG, false, 0)
def f_ (L : List St) (s q a : Int) (r : Rp) : Int × List St :=
 if (gy L s q).2.2 ≠ 0 then ((gy L s q).2.2, L) else if (gy L s q).2.1 then (81, L) else if (⟨s, q, a, r⟩ : St).ok then (0, ig L ⟨s, q, a, r⟩) else (1, L)
def vX (L : List St) (f : Int) : List St := L.filter fun x => f ≤ x.a
theorem UF : iG.ok = true := by decide
theorem dS.ins {L : List St} (h : dS L) {x : St} (hx : x.ok = true) (hl : (cK L x.s).isSome = true ∨ L.length < 8) : dS (ig L x) :=
 ⟨h.rises.ins x, by
  rw [rO h.rises];have := h.len
  split
  ·omega
  ·rename_i hn;rcases hl with hl | hl
   ·exact absurd hl hn
   ·omega, fun y hy => by
  rcases yx hy with rfl | hy
  ·exact hx
  ·exact h.ok y hy⟩
theorem dS.open_ {L : List St} (h : dS L) (at_ : Int) : dS (iC L at_).2 := by
 unfold iC
 split
 ·exact h
 ·rename_i h1
  split
  ·exact h
  ·have RQ : c40 at_ = true := by
    cases hc : c40 at_
    ·simp [hc] at h1
    ·rfl
   have h2 := Ab.1 RQ;exact h.ins (St.aO.2 ⟨h2, by dsimp only; omega, h2, UF⟩) (.inr (by omega))
theorem JB {L : List St} {s q : Int} (h : (gy L s q).2.2 ≠ 80) : ∃ x, cK L s = some x := by
 unfold gy at h;cases hf : cK L s with
 | none => rw [hf] at h; simp at h
 | some x => exact ⟨x, rfl⟩
theorem dS.keep {L : List St} (h : dS L) (s q a : Int) (r : Rp) : dS (f_ L s q a r).2 := by
 unfold f_
 split
 ·exact h
 ·rename_i h0
  split
  ·exact h
  ·split
   ·rename_i hx;obtain ⟨x, pX⟩ := JB (L := L) (s := s) (q := q) (by omega);exact h.ins hx (.inl (by dsimp only; rw [pX]; rfl))
   ·exact h
theorem dS.exp {L : List St} (h : dS L) (f : Int) : dS (vX L f) :=
 ⟨h.rises.sublist aeK, acN (adF _ _) h.len, fun x hx => h.ok x (adT.1 hx).1⟩
theorem rP {L : List St} (h : L.Pairwise fun x y => x.s ≠ y.s) (p : St → Bool) (k : Int) : cK (L.filter p) k = (cK L k).filter p := by
 cases hf : cK L k with
 | none =>
  rw [iW] at hf;exact iW.2 fun x hx => hf x (adT.1 hx).1
 | some x =>
  obtain ⟨hx, rfl⟩ := kM hf;cases hp : p x
  ·rw [aef, hp];refine iW.2 fun y hy e => ?_;obtain ⟨LL, hy2⟩ := adT.1 hy;have h1 := iM h LL;rw [e, hf] at h1;injection h1 with h1;rw [h1, hy2] at hp;cases hp
  ·rw [aef, hp];exact iM (h.sublist aeK) (adT.2 ⟨hx, hp⟩)
open Go.RowKit
def vU (r : Rp) : List Value := [.int .i64 r.er, .int .i64 r.rs, .int .i64 r.gn, .int .i64 r.ad, .int .i64 r.sa, .int .i64 r.ot, .int .i64 r.cy, .int .i64 r.fu]
def mN (x : St) : List Value := [.int .i64 x.s, .int .i64 x.q, .int .i64 x.a, .int .i64 x.r.er, .int .i64 x.r.rs, .int .i64 x.r.gn, .int .i64 x.r.ad, .int .i64 x.r.sa, .int .i64 x.r.ot, .int .i64 x.r.cy, .int .i64 x.r.fu]
def wY (r : Rp) : Value := .agg #[.int .i64 r.er, .int .i64 r.rs, .int .i64 r.gn, .int .i64 r.ad, .int .i64 r.sa, .int .i64 r.ot, .int .i64 r.cy, .int .i64 r.fu]
def nC (x : St) : Value := .agg #[.int .i64 x.s, .int .i64 x.q, .int .i64 x.a, .int .i64 x.r.er, .int .i64 x.r.rs, .int .i64 x.r.gn, .int .i64 x.r.ad, .int .i64 x.r.sa, .int .i64 x.r.ot, .int .i64 x.r.cy, .int .i64 x.r.fu]
theorem gM (x : St) : (mN x).length = 11 := rfl
theorem Gz (x : St) : ∀ v ∈ mN x, v.oneCell' = true := by
 intro v hv;simp only [mN, ac9, ad_, afd] at hv;rcases hv with rfl | rfl | rfl | rfl | rfl | rfl | rfl | rfl | rfl | rfl | rfl <;> rfl
theorem Na (w : World) : (zeroValue 84).run prog w = .ok (nC RH) w := by kernel_rfl
structure RI (D : DataW Value) (L : List St) : Prop where
 size : Maps.size D = L.length
 keys : ∀ k, Maps.has D (.int .i64 k) = (cK L k).isSome
 vals : ∀ k x, cK L k = some x → ∀ z, D.atKey (.int .i64 k) z = .held (nC x)
 rises : fT L
structure iN (w : World) (b : Nat) (L : List St) (D : DataW Value) : Prop where
 map : w.ownsMap prog 3 ic b L.length D
 rd : RI D L
theorem iN.lt {w : World} {b : Nat} {L : List St} {D : DataW Value} (h : iN w b L D) : b < w.heap.size := h.map.lt
theorem iN.aU {w w' : World} {S : Nat → Prop} {b : Nat} {L : List St} {D : DataW Value} (h : iN w b L D) (hc : ak w w' S) (hn : ¬ S b) : iN w' b L D := by
 have bd := h.map.lt;obtain ⟨es, clock, h1, rest⟩ := h.map;exact ⟨⟨es, clock, (hc.block b bd hn).trans h1, rest⟩, h.rd⟩
theorem iN.drewN {w : World} {b : Nat} {L : List St} {D : DataW Value} (h : iN w b L D) (q : Nat) : iN (w.drewN q) b L D := ⟨h.map, h.rd⟩
theorem iN.grown {w w' : World} {b : Nat} {L : List St} {D : DataW Value} {row : Option Nat} (h : iN w b L D) (hg : w.grownBy w' row) (aN : row ≠ some b) : iN w' b L D :=
 ⟨h.map.kept hg fun e => aN e.symm, h.rd⟩
theorem iN.look {w : World} {b : Nat} {L : List St} {D : DataW Value} (h : iN w b L D) {k : Int} (hk : (Lit.int .i64 k).wf = true) (q : Nat) :
  (Instr.lookup 171 (.map (some b)) (.int .i64 k) true).run prog (w.drewN q) = .ok (.tuple #[nC ((cK L k).getD RH), .bool (cK L k).isSome]) (w.drewN q) ∧ (Instr.lookup 171 (.map (some b)) (.int .i64 k) false).run prog (w.drewN q) = .ok (nC ((cK L k).getD RH)) (w.drewN q) := by
 have oB : (w.drewN q).ownsMap prog 3 ic b L.length D := h.map;obtain ⟨v, ps, dB, hv⟩ := oB.look_ok fe ael (Na (w.drewN q)) (zd := .held (nC RH)) (zp := []) rfl (qG hk);obtain ⟨v2, VM, iD, rG⟩ := oB.lookup fe ael (Na (w.drewN q)) (zd := .held (nC RH)) (zp := []) rfl (qG hk);cases hf : cK L k with
 | none =>
  have hh : Maps.has D (.int .i64 k) = false := by rw [h.rd.keys, hf]; rfl
  rw [aeT hh] at hv rG;obtain rfl := ft hv;obtain rfl := ft rG;rw [hh] at dB;exact ⟨dB, iD⟩
 | some x =>
  have hh : Maps.has D (.int .i64 k) = true := by rw [h.rd.keys, hf]; rfl
  rw [h.rd.vals k x hf] at hv rG;obtain rfl := ft hv;obtain rfl := ft rG;rw [hh] at dB;exact ⟨dB, iD⟩
theorem iN.store {w : World} {b : Nat} {L : List St} {D : DataW Value} (h : iN w b L D) {x : St} (hk : (Lit.int .i64 x.s).wf = true) (hL : L.length < maxLen) :
  ∃ w' D', (Instr.mapUpdate 171 (.map (some b)) (.int .i64 x.s) (nC x)).run prog w = .ok () w' ∧ w.grownBy w' (some b) ∧ iN w' b (ig L x) D' := by
 obtain ⟨w', dB, T4, hg⟩ := h.map.update fe ael hL (qG hk) (d := .held (nC x)) (ps := []) (val := nC x) rfl;have ua := h.map.tidy fe;have kt : Maps.size (D.put (.int .i64 x.s) (.held (nC x))) = (ig L x).length := by
  rw [Maps.size_put ua, h.rd.keys, rO h.rd.rises, h.rd.size];cases (cK L x.s).isSome <;> simp
 refine ⟨w', _, dB, hg, ⟨by rw [← kt]; exact gG T4, ⟨kt, fun k => ?_, fun k y hy => ?_, h.rd.rises.ins x⟩⟩⟩
 ·rw [CV];by_cases e : x.s = k
  ·subst e;rw [acW rfl, Maps.has_put_same h.map.isMap (lx _)];rfl
  ·rw [acO e, ae_ (fun h => e (by injection h with _ h; exact h.symm)), h.rd.keys]
 ·rw [CV] at hy;by_cases e : x.s = k
  ·subst e;rw [acW rfl] at hy;simp at hy;subst hy;intro z;rw [Maps.atKey_put_same h.map.isMap (lx _)]
  ·rw [acO e] at hy;intro z;rw [Maps.atKey_put_other (fun h => e (by injection h with _ h; exact h.symm))];exact h.rd.vals k y hy z
theorem UG (w : World) : iN (w.alloc (.map #[] 0)) w.heap.size [] (.map []) :=
 ⟨World.ownsMap_made w _ _ _, ⟨rfl, fun k => rfl, fun k x h => by simp [cK] at h, aek⟩⟩
structure d_ (w : World) (g b : Nat) (L : List St) : Prop where
 c0 : w.cell? ⟨g, 0, none⟩ = some (.map (some b))
 ne : g ≠ b
 map : ∃ D, iN w b L D
 ok : dS L
theorem d_.gl {w : World} {g b : Nat} {L : List St} (h : d_ w g b L) : g < w.heap.size := lt_of_cell h.c0
theorem d_.bl {w : World} {g b : Nat} {L : List St} (h : d_ w g b L) : b < w.heap.size := by obtain ⟨D, hD⟩ := h.map; exact hD.lt
theorem d_.aU {w w' : World} {S : Nat → Prop} {g b : Nat} {L : List St} (h : d_ w g b L) (hc : ak w w' S) (h1 : ¬ S g) (h2 : ¬ S b) : d_ w' g b L :=
 ⟨hc.cell h.c0 h1, h.ne, by obtain ⟨D, hD⟩ := h.map; exact ⟨D, hD.aU hc h2⟩, h.ok⟩
theorem d_.below {w w' : World} {g b : Nat} {L : List St} (h : d_ w g b L) (hb : Below w.heap.size w w') : d_ w' g b L := h.aU (ak.of_below hb fun _ => False) (fun e => e) (fun e => e)
theorem d_.alloc {w : World} {g b : Nat} {L : List St} (h : d_ w g b L) (o : Obj) : d_ (w.alloc o) g b L := h.below ((acG _ _).alloc (acE _) o)
theorem d_.yo {w w' : World} {g b : Nat} {L L' : List St} {D : DataW Value} (h : d_ w g b L) (hc : ak w w' (fun k => k = b)) (hm : iN w' b L' D) (ho : dS L') : d_ w' g b L' :=
 ⟨hc.cell h.c0 h.ne, h.ne, ⟨D, hm⟩, ho⟩
theorem wT (b : Nat) (w : World) : (binOp .neq 171 (.map (some b)) (.map none)).run prog w = .ok (.bool true) w := by
 kernel_rfl
theorem YQ {n : Int} (h0 : -9223372036854775808 ≤ n) (h1 : n ≤ 9223372036854775807) : (Lit.int .i64 n).wf = true := by
 have RQ : IntKind.i64.min = -9223372036854775808 := rfl;have h2 : IntKind.i64.max = 9223372036854775807 := rfl;simp only [Lit.wf, adb, adr];omega
theorem fU {w : World} {g b : Nat} (c0 : w.cell? ⟨g, 0, none⟩ = some (.map (some b))) : Calls prog 132 #[.pointer (some ⟨g, 0, none⟩)] w fun e w' => e = .returned (.bool true) ∧ ak w w' (fun _ => False) := by
 have T_ := wT b;go_enter func132, ntmps132
 go_wp2;go_ret;exact ⟨rfl, ak.refl _ _⟩
theorem Qb {n : Int} (h : ¬ 1 ≤ n) : c40 n = false := by unfold c40; simp [h]
theorem Qc {n : Int} (h : ¬ n ≤ 1099511627776) : c40 n = false := by unfold c40; simp [h]
theorem Qd {n : Int} (h1 : 1 ≤ n) (h2 : n ≤ 1099511627776) : c40 n = true := Ab.2 ⟨h1, h2⟩
theorem kj (w : World) (n : Int) : Calls prog 179 #[.int .i64 n] w fun e w' => e = .returned (.bool (c40 n)) ∧ w = w' := by
 by_cases h1 : 1 ≤ n
 ·by_cases h2 : n ≤ 1099511627776
  ·have HC := af (Qd h1 h2);go_enter func179, ntmps179
   go_wp2;go_ret;exact ⟨by rw [HC.out]; rfl, rfl⟩
  ·have HC := af (Qc h2);go_enter func179, ntmps179
   go_wp2;go_ret;exact ⟨by rw [HC.out]; rfl, rfl⟩
 ·have HC := af (Qb h1);go_enter func179, ntmps179
  go_wp2;go_ret;exact ⟨by rw [HC.out]; rfl, rfl⟩
def mO (w : World) (g : Nat) (l : List Int) : Prop := ∀ (i : Nat) n, l[i]? = some n → w.cell? ⟨g, i, none⟩ = some (.int .i64 n)
def Nb (w0 w : World) (l : List Int) (e : Ending) (w' : World) : Prop := ∃ g, e = .returned (.slice (some ⟨g, 0, none⟩) 11 11) ∧ mO w' g l ∧ w0.heap.size ≤ g ∧ Below w0.heap.size w w'
theorem CW (W : World) (l : List Int) {g : Nat} (hg : g = W.heap.size) : mO (W.alloc (.cells (l.map (Value.int .i64)).toArray 3)) g l := by
 intro i n hi;subst hg;rw [adX];simp [hi]
theorem lH (w : World) (x : St) : Calls prog 190 #[nC x] w (Nb w w x.nums) := by
 obtain ⟨s, q, a, ⟨e1, e2, e3, e4, e5, e6, e7, e8⟩⟩ := x;unfold nC;dsimp only;go_enter func190, ntmps190
 go_wp2;go_region
 all_goals
  go_wp2;go_ret;refine ⟨_, rfl, CW _ [s, q, a, e1, e2, e3, e4, e5, e6, e7, e8] (by simp), by omega, ?_⟩;exact (((((acG _ _).alloc (acE _) _).alloc (by simp) _).alloc (by simp; omega) _).alloc (by simp; omega) _).trans (ag _ 1)
theorem pQ {l : List Int} {k : Nat} {n : Int} (h : l[k]? = some n) : (l.drop k).all n40 = (n40 n && (l.drop (k + 1)).all n40) := by
 obtain ⟨hk, rfl⟩ := acL.1 h;rw [adL hk, aeI]
theorem GA {n : Int} (h : n < 0) : n40 n = false := by
 cases hb : n40 n
 ·rfl
 ·have := iL.1 hb; omega
theorem GB {n : Int} (h : 1099511627776 < n) : n40 n = false := by
 cases hb : n40 n
 ·rfl
 ·have := iL.1 hb; omega
theorem Ac (w : World) (x : St) : Calls prog 188 #[nC x] w fun e w' => e = .returned (.bool x.tell) ∧ Below w.heap.size w w' := by
 have HN := fun w => lH w x;obtain ⟨l, hl⟩ : ∃ l, x.nums = l := ⟨_, rfl⟩
 have r_ : l.length = 11 := by rw [← hl]; rfl
 have HT : Hid (x.tell = l.all n40) := af (by rw [← hl]; rfl);rw [hl] at HN;obtain ⟨t, ht⟩ : ∃ t, x.tell = t := ⟨_, rfl⟩
 rw [ht] at HT ⊢;clear hl ht;obtain ⟨s, q, a, ⟨e1, e2, e3, e4, e5, e6, e7, e8⟩⟩ := x;unfold nC at *;dsimp only at *;have HL := af r_;clear r_;go_enter func188, ntmps188
 go_wp2_with fail
 refine (HN _).mono ?_;rintro e w1 ⟨g, rfl, hn, hg, hb⟩;have HG := af (((acG w.heap.size w).alloc (acE _) _).trans (hb.mono (by simp)));clear hb hg;go_wp2;go_loop [8] (fun i => ∃ k : Nat, k ≤ 11 ∧ i = .int .i64 k ∧ Hid (l.all n40 = (l.drop k).all n40)) (fun i => 11 - (intOf i).toNat)
 case atStart => exact ⟨0, by omega, rfl, af rfl⟩
 case round =>
  obtain ⟨k, hk, rfl, HK⟩ := hrel;by_cases bd : k < 11
  ·have qK : k < l.length := by have := HL.out; omega
   obtain ⟨n, sF⟩ : ∃ n, l[k]? = some n := ⟨_, acF qK⟩
   have hc := hn k n sF;have HD := af (pQ sF);by_cases h0 : n < 0
   ·have HF : Hid (t = false) := af (by rw [HT.out, HK.out, HD.out, GA h0]; rfl);clear sF qK;go_wp2;go_ret;exact ⟨by rw [HF.out]; rfl, HG.out⟩
   ·by_cases h1 : n > 1099511627776
    ·have HF : Hid (t = false) := af (by rw [HT.out, HK.out, HD.out, GB h1]; rfl);clear sF qK;go_wp2;go_ret;exact ⟨by rw [HF.out]; rfl, HG.out⟩
    ·have HY : Hid (l.all n40 = (l.drop (k + 1)).all n40) := af (by rw [HK.out, HD.out, iL.2 ⟨by omega, by omega⟩]; rfl);clear sF qK;go_wp2;go_round
     case rel => exact ⟨k + 1, by omega, by go_num, HY⟩
     case measure => simp [intOf]; omega
  ·have HF : Hid (t = true) := af (by rw [HT.out, HK.out, List.drop_of_length_le (by have := HL.out; omega)]; rfl);go_wp2;go_ret;exact ⟨by rw [HF.out]; rfl, HG.out⟩
theorem km (w : World) (x : St) : Calls prog 163 #[nC x] w fun e w' => e = .returned (.bool x.ok) ∧ Below w.heap.size w w' := by
 have HT := fun w => Ac w x;have aT : x.ok = (c40 x.s && c40 x.a && x.tell) := rfl;obtain ⟨t, ht⟩ : ∃ t, x.tell = t := ⟨_, rfl⟩
 obtain ⟨u, hu⟩ : ∃ u, x.ok = u := ⟨_, rfl⟩
 rw [ht] at HT aT;rw [hu] at aT ⊢;clear ht hu;obtain ⟨s, q, a, ⟨e1, e2, e3, e4, e5, e6, e7, e8⟩⟩ := x;unfold nC at *;dsimp only at *;have rW := fun w => kj w s;have AL := fun w => kj w a;cases h1 : c40 s
 ·rw [h1] at rW aT;have HO : Hid (u = false) := af (by rw [aT]; rfl);clear aT h1;go_enter func163, ntmps163
  go_wp2_with fail
  refine (rW _).mono ?_;rintro e w1 ⟨rfl, rfl⟩;go_wp2;go_ret;exact ⟨by rw [HO.out]; rfl, (acG _ _).alloc (acE _) _⟩
 ·cases h2 : c40 a
  ·rw [h1] at rW aT;rw [h2] at AL aT;have HO : Hid (u = false) := af (by rw [aT]; rfl);clear aT h1 h2;go_enter func163, ntmps163
   go_wp2_with fail
   refine (rW _).mono ?_;rintro e w1 ⟨rfl, rfl⟩;go_wp2_with fail
   refine (AL _).mono ?_;rintro e w1 ⟨rfl, rfl⟩;go_wp2;go_ret;exact ⟨by rw [HO.out]; rfl, (acG _ _).alloc (acE _) _⟩
  ·rw [h1] at rW aT;rw [h2] at AL aT;have HO : Hid (u = t) := af (by rw [aT]; rfl);clear aT h1 h2;go_enter func163, ntmps163
   go_wp2_with fail
   refine (rW _).mono ?_;rintro e w1 ⟨rfl, rfl⟩;go_wp2_with fail
   refine (AL _).mono ?_;rintro e w1 ⟨rfl, rfl⟩;go_wp2_with fail
   refine (HT _).mono ?_;rintro e w1 ⟨rfl, hb⟩;have HB := af (((acG w.heap.size w).alloc (acE _) _).trans (hb.mono (by simp)));clear hb;go_wp2;go_ret;exact ⟨by rw [HO.out]; rfl, HB.out⟩
theorem Fz (w : World) : (Instr.makeMap 171 none).run prog w = .ok (.map (some w.heap.size)) (w.alloc (.map #[] 0)) := by
 kernel_rfl
theorem ru (w : World) : Calls prog 75 #[] w fun e w' => e = .returned (.pointer (some ⟨w.heap.size + 1, 0, none⟩)) ∧ d_ w' (w.heap.size + 1) w.heap.size [] ∧ Below w.heap.size w w' := by
 have Yt := Fz w;go_enter func75, ntmps75
 go_wp2;go_ret;have hs : (w.alloc (.map #[] 0)).heap.size = w.heap.size + 1 := by simp
 have b1 := (acG w.heap.size w).alloc (acE _) (.map #[] 0);refine ⟨rfl, ⟨?_, by omega, ⟨_, (UG w).grown (ada _ _ none) (by simp)⟩, dS.nil⟩, b1.alloc b1.size _⟩;rw [← hs];exact acC _ _ 0 _ 173 (0, 0) (acQ (w.alloc (.map #[] 0)) _)
theorem ak.Ad {a b : World} (h : ak a b fun _ => False) (S : Nat → Prop) : ak a b S := h.mono fun k e => e.elim
def sE (w : World) (g b : Nat) (n : Int) (L : List St) (e : Ending) (w' : World) : Prop := e = .returned (.int .i64 n) ∧ d_ w' g b L ∧ ak w w' (fun k => k = b)
theorem yO {w : World} {g b : Nat} {L : List St} (h : d_ w g b L) {n : Int} (hk : (Lit.int .i64 n).wf = true) : Calls prog 148 #[.pointer (some ⟨g, 0, none⟩), .int .i64 n] w (sE w g b (iC L n).1 (iC L n).2) := by
 have HM := af (fU h.c0);have HC := fun w => kj w n;have HH := af h;have HK := af hk;have P8 := h.ok.len;have fh : Hid (dS (iC L n).2) := af (h.ok.open_ n);obtain ⟨u, hu⟩ : ∃ u, (cK L n).getD RH = u := ⟨_, rfl⟩
 obtain ⟨th, Az⟩ : ∃ th, (cK L n).isSome = th := ⟨_, rfl⟩
 have HU := af hu;have UH := af Az;clear h hk hu Az;go_enter func148, ntmps148
 go_wp2_with fail
 refine HM.out.mono ?_;rintro e X ⟨rfl, kg⟩;have hX := HH.out.aU kg (fun e => e) (fun e => e);have c0 := hX.c0;obtain ⟨D, hD⟩ := hX.map;have hl : (Instr.lookup 171 (.map (some b)) (.int .i64 n) true).run prog X = .ok (.tuple #[nC u, .bool th]) X := by
  have := (hD.look HK.out 0).1
  rwa [HU.out, UH.out] at this
 have HD := af hD;have HX := af hX;have qQ := af kg;clear hX hD kg;obtain ⟨s, q, a, ⟨e1, e2, e3, e4, e5, e6, e7, e8⟩⟩ := u;unfold nC at hl;dsimp only at hl;have TJ := HX.out.gl;have hgn : g ≠ X.heap.size := by omega
 obtain ⟨Y, hY⟩ : ∃ Y, X.alloc (.cells #[.int .i64 s, .int .i64 q, .int .i64 a, .int .i64 e1, .int .i64 e2, .int .i64 e3, .int .i64 e4, .int .i64 e5, .int .i64 e6, .int .i64 e7, .int .i64 e8] 84) = Y := ⟨_, rfl⟩
 have c0Y : Y.cell? ⟨g, 0, none⟩ = some (.map (some b)) := by rw [← hY]; exact acX _ c0
 have HY : Hid (d_ Y g b L) := af (by rw [← hY]; exact HX.out.alloc _);have Ao : Hid (ak w Y (fun _ => False)) := af (by rw [← hY]; exact qQ.out.alloc _);cases th
 ·have hf : cK L n = none := by have := UH.out; simpa using this
  cases hc : c40 n
  ·have HR : Hid (iC L n = (1, L)) := af (by unfold iC; rw [hf, hc]; rfl);rw [hc] at HC;clear hf hc;go_wp2_with fail
   refine (HC _).mono ?_;rintro e w1 ⟨rfl, rfl⟩;go_wp2;go_ret;rw [HR.out];exact ⟨by rfl, HY.out, Ao.out.Ad _⟩
  ·rw [hc] at HC;obtain ⟨D2, hD2⟩ := HY.out.map;have hlen := hD2.map.len ael 3;rw [hD2.rd.size] at hlen;have HD2 := af hD2;clear hD2;by_cases h8 : (8 : Int) ≤ (L.length : Int)
   ·have HR : Hid (iC L n = (7, L)) := af (by unfold iC; rw [hf, hc, acO (by simp), acW (by omega)]);clear hf hc;go_wp2_with fail
    refine (HC _).mono ?_;rintro e w1 ⟨rfl, rfl⟩;go_wp2;go_ret;rw [HR.out];exact ⟨by rfl, HY.out, Ao.out.Ad _⟩
   ·have HR : Hid (iC L n = (0, ig L ⟨n, 0, n, iG⟩)) := af (by unfold iC; rw [hf, hc, acO (by simp), acO (by omega)]);clear hf hc;obtain ⟨w2, D3, dB, dO, VU⟩ := HD2.out.store (x := ⟨n, 0, n, iG⟩) HK.out (by simp [maxLen]; omega);unfold nC iG at dB;dsimp only at dB;have rV := af dO;have HM2 := af VU;clear dO VU;go_wp2_with fail
    refine (HC _).mono ?_;rintro e w1 ⟨rfl, rfl⟩;go_wp2;go_ret;have rX : ak Y w2 (fun k => k = b) := ak.aV rV.out _ (fun k e => by injection e with e; exact .inl e.symm);rw [HR.out] at fh ⊢;exact ⟨by rfl, HY.out.yo rX HM2.out fh.out, (Ao.out.Ad _).trans rX fun k hk => .inl hk⟩
 ·obtain ⟨y, hf⟩ := adG.1 UH.out;have HR : Hid (iC L n = (1, L)) := af (by unfold iC; rw [hf]; rfl);clear hf;go_wp2;go_ret;rw [HR.out];exact ⟨by rfl, HY.out, Ao.out.Ad _⟩
def FO (w : World) (p : Rp × Bool × Int) (e : Ending) (w' : World) : Prop := e = .returned (.tuple #[wY p.1, .bool p.2.1, .int .i64 p.2.2]) ∧ Below w.heap.size w w'
theorem Nc (Y : World) (r : Nat) (t : TypeId) (v0 v1 v2 v3 v4 v5 v6 v7 x0 x1 x2 x3 x4 x5 x6 x7 : Value) (h : Y.heap[r]? = some (.cells #[v0, v1, v2, v3, v4, v5, v6, v7] t)) :
  ((((((((Y.setCell ⟨r, 0, none⟩ x0).setCell ⟨r, 1, none⟩ x1).setCell ⟨r, 2, none⟩ x2).setCell ⟨r, 3, none⟩ x3).setCell ⟨r, 4, none⟩ x4).setCell ⟨r, 5, none⟩ x5).setCell ⟨r, 6, none⟩ x6).setCell ⟨r, 7, none⟩ x7).heap[r]? = some (.cells #[x0, x1, x2, x3, x4, x5, x6, x7] t) := by
 have q0 := acK Y r 0 _ t x0 h;have q1 := acK _ r 1 _ t x1 q0;have q2 := acK _ r 2 _ t x2 q1;have q3 := acK _ r 3 _ t x3 q2;have q4 := acK _ r 4 _ t x4 q3;have q5 := acK _ r 5 _ t x5 q4;have q6 := acK _ r 6 _ t x6 q5;have q7 := acK _ r 7 _ t x7 q6;simp only [adn, adH, adI] at q7;exact q7
theorem YR {B : Nat} {w Y : World} {r : Nat} (x0 x1 x2 : Value) (h : Below B w Y) (hB : B ≤ r) : Below B w (((Y.setCell ⟨r, 0, none⟩ x0).setCell ⟨r, 1, none⟩ x1).setCell ⟨r, 2, none⟩ x2) := by
 have step : ∀ (V : World) (i : Nat) (x : Value), Below B w V → Below B w (V.setCell ⟨r, i, none⟩ x) := fun V i x hV => zM hV hB;exact step _ _ _ (step _ _ _ (step _ _ _ h))
theorem YS {B : Nat} {w Y : World} {r : Nat} (x0 x1 x2 x3 : Value) (h : Below B w Y) (hB : B ≤ r) : Below B w ((((Y.setCell ⟨r, 0, none⟩ x0).setCell ⟨r, 1, none⟩ x1).setCell ⟨r, 2, none⟩ x2).setCell ⟨r, 3, none⟩ x3) := by
 have step : ∀ (V : World) (i : Nat) (x : Value), Below B w V → Below B w (V.setCell ⟨r, i, none⟩ x) := fun V i x hV => zM hV hB;exact step _ _ _ (YR x0 x1 x2 h hB)
theorem CX {B : Nat} {w Y : World} {r : Nat} (x0 x1 x2 x3 x4 x5 x6 x7 : Value) (h : Below B w Y) (hB : B ≤ r) : Below B w ((((((((Y.setCell ⟨r, 0, none⟩ x0).setCell ⟨r, 1, none⟩ x1).setCell ⟨r, 2, none⟩ x2).setCell ⟨r, 3, none⟩ x3).setCell ⟨r, 4, none⟩ x4).setCell ⟨r, 5, none⟩ x5).setCell ⟨r, 6, none⟩ x6).setCell ⟨r, 7, none⟩ x7) := by
 have step : ∀ (V : World) (i : Nat) (x : Value), Below B w V → Below B w (V.setCell ⟨r, i, none⟩ x) := fun V i x hV => zM hV hB;have h4 := YS x0 x1 x2 x3 h hB;have h5 := step _ 4 x4 h4;have h6 := step _ 5 x5 h5;have h7 := step _ 6 x6 h6;have h8 := step _ 7 x7 h7;exact h8
theorem rl {w : World} {g b : Nat} {L : List St} (h : d_ w g b L) {n m : Int} (hk : (Lit.int .i64 n).wf = true) (Vt : -9223372036854775808 ≤ m) (Aw : m ≤ 9223372036854775807) : Calls prog 180 #[.pointer (some ⟨g, 0, none⟩), .int .i64 n, .int .i64 m] w (FO w (gy L n m)) := by
 obtain ⟨A, hA⟩ : ∃ A, w.alloc (.cells #[.int .i64 0, .int .i64 0, .int .i64 0, .int .i64 0, .int .i64 0, .int .i64 0, .int .i64 0, .int .i64 0] 66) = A := ⟨_, rfl⟩
 have H_ : A.heap[w.heap.size]? = some (.cells #[.int .i64 0, .int .i64 0, .int .i64 0, .int .i64 0, .int .i64 0, .int .i64 0, .int .i64 0, .int .i64 0] 66) := by rw [← hA]; exact acQ w _
 have UI : d_ A g b L := by rw [← hA]; exact h.alloc _
 have vS : Below w.heap.size w A := by rw [← hA]; exact (acG _ _).alloc (acE _) _
 have HM := af (fU UI.c0);have HH := af UI;have HK := af hk;have Hs := af H_;have Al := af vS;have abI := af h.ok.ok;obtain ⟨u, hu⟩ : ∃ u, (cK L n).getD RH = u := ⟨_, rfl⟩
 obtain ⟨th, Az⟩ : ∃ th, (cK L n).isSome = th := ⟨_, rfl⟩
 have HU := af hu;have UH := af Az;have jD : g ≠ w.heap.size := by have := h.gl; omega
 have HA := af hA;clear h hk hu Az UI H_ vS hA;go_enter func180, ntmps180
 go_wp2_with fail
 rw [HA.out];refine HM.out.mono ?_;rintro e X ⟨rfl, kg⟩;have hX := HH.out.aU kg (fun e => e) (fun e => e);have c0 := hX.c0;obtain ⟨D, hD⟩ := hX.map;have hl : (Instr.lookup 171 (.map (some b)) (.int .i64 n) true).run prog X = .ok (.tuple #[nC u, .bool th]) X := by
  have := (hD.look HK.out 0).1
  rwa [HU.out, UH.out] at this
 have Hv : X.heap[w.heap.size]? = some (.cells #[.int .i64 0, .int .i64 0, .int .i64 0, .int .i64 0, .int .i64 0, .int .i64 0, .int .i64 0, .int .i64 0] 66) := (kg.block _ (acJ.1 Hs.out).1 (fun e => e)).trans Hs.out;have VP : w.heap.size < X.heap.size := (acJ.1 Hv).1;have oK : Below w.heap.size w X := ak.aZ Al.out kg (fun k e => e.elim);have HX := af hX;clear hX hD kg;have hun : th = true → cK L n = some u ∧ 0 ≤ u.q ∧ u.q ≤ 1099511627776 := by
  intro e;have h1 := UH.out;rw [e] at h1;obtain ⟨y, hf⟩ := adG.1 h1;have h2 := HU.out;rw [hf] at h2;simp at h2;subst h2;have := (St.aO.1 (abI.out y (kM hf).1)).2.1;exact ⟨hf, this.1, this.2⟩
 obtain ⟨s, q, a, ⟨e1, e2, e3, e4, e5, e6, e7, e8⟩⟩ := u;unfold nC at hl;dsimp only at hl hun;have TJ := HX.out.gl;have hgn : g ≠ X.heap.size := by omega
 obtain ⟨Y, hY⟩ : ∃ Y, X.alloc (.cells #[.int .i64 s, .int .i64 q, .int .i64 a, .int .i64 e1, .int .i64 e2, .int .i64 e3, .int .i64 e4, .int .i64 e5, .int .i64 e6, .int .i64 e7, .int .i64 e8] 84) = Y := ⟨_, rfl⟩
 have lN : Y.heap[w.heap.size]? = some (.cells #[.int .i64 0, .int .i64 0, .int .i64 0, .int .i64 0, .int .i64 0, .int .i64 0, .int .i64 0, .int .i64 0] 66) := by
  rw [← hY];exact (Below.heap_alloc X _ _ VP).trans Hv
 have fF : Below w.heap.size w Y := by rw [← hY]; exact oK.alloc oK.size _
 have df : ∀ i v, #[Value.int .i64 s, .int .i64 q, .int .i64 a, .int .i64 e1, .int .i64 e2, .int .i64 e3, .int .i64 e4, .int .i64 e5, .int .i64 e6, .int .i64 e7, .int .i64 e8][i]? = some v → Y.cell? ⟨X.heap.size, i, none⟩ = some v := fun i v hi => by rw [← hY, adX]; exact hi
 have y1 : Y.cell? ⟨X.heap.size, 1, none⟩ = some (.int .i64 q) := df 1 _ rfl;have y3 : Y.cell? ⟨X.heap.size, 3, none⟩ = some (.int .i64 e1) := df 3 _ rfl;have y4 : Y.cell? ⟨X.heap.size, 4, none⟩ = some (.int .i64 e2) := df 4 _ rfl;have y5 : Y.cell? ⟨X.heap.size, 5, none⟩ = some (.int .i64 e3) := df 5 _ rfl;have y6 : Y.cell? ⟨X.heap.size, 6, none⟩ = some (.int .i64 e4) := df 6 _ rfl;have y7 : Y.cell? ⟨X.heap.size, 7, none⟩ = some (.int .i64 e5) := df 7 _ rfl;have y8 : Y.cell? ⟨X.heap.size, 8, none⟩ = some (.int .i64 e6) := df 8 _ rfl;have y9 : Y.cell? ⟨X.heap.size, 9, none⟩ = some (.int .i64 e7) := df 9 _ rfl;have y10 : Y.cell? ⟨X.heap.size, 10, none⟩ = some (.int .i64 e8) := df 10 _ rfl;have m0 := acC Y w.heap.size 0 _ 66 (0, 0) lN;have m1 := acC Y w.heap.size 1 _ 66 (0, 0) lN;have m2 := acC Y w.heap.size 2 _ 66 (0, 0) lN;have m3 := acC Y w.heap.size 3 _ 66 (0, 0) lN;have m4 := acC Y w.heap.size 4 _ 66 (0, 0) lN;have m5 := acC Y w.heap.size 5 _ 66 (0, 0) lN;have m6 := acC Y w.heap.size 6 _ 66 (0, 0) lN;have m7 := acC Y w.heap.size 7 _ 66 (0, 0) lN;have f0 := acI Y w.heap.size 0 _ 66 lN;have f1 := acI Y w.heap.size 1 _ 66 lN;have f2 := acI Y w.heap.size 2 _ 66 lN;have f3 := acI Y w.heap.size 3 _ 66 lN;have f4 := acI Y w.heap.size 4 _ 66 lN;have f5 := acI Y w.heap.size 5 _ 66 lN;have f6 := acI Y w.heap.size 6 _ 66 lN;have f7 := acI Y w.heap.size 7 _ 66 lN;simp at m0 m1 m2 m3 m4 m5 m6 m7;have oO := af lN;have eI := af fF;clear df lN fF Hv oK;cases th
 ·have HR : Hid (gy L n m = (iG, false, 80)) := af (by have hf : cK L n = none := (by have := UH.out; simpa using this); unfold gy; rw [hf]);clear hun;go_wp2;have fG := Nc Y w.heap.size 66 _ _ _ _ _ _ _ _ (.int .i64 0) (.int .i64 0) (.int .i64 0) (.int .i64 0) (.int .i64 0) (.int .i64 0) (.int .i64 0) (.int .i64 0) oO.out;have kn := CX (.int .i64 0) (.int .i64 0) (.int .i64 0) (.int .i64 0) (.int .i64 0) (.int .i64 0) (.int .i64 0) (.int .i64 0) eI.out (acE _);obtain ⟨W9, CY⟩ : ∃ W9, ((((((((Y.setCell ⟨w.heap.size, 0, none⟩ (.int .i64 0)).setCell ⟨w.heap.size, 1, none⟩ (.int .i64 0)).setCell ⟨w.heap.size, 2, none⟩ (.int .i64 0)).setCell ⟨w.heap.size, 3, none⟩ (.int .i64 0)).setCell ⟨w.heap.size, 4, none⟩ (.int .i64 0)).setCell ⟨w.heap.size, 5, none⟩ (.int .i64 0)).setCell ⟨w.heap.size, 6, none⟩ (.int .i64 0)).setCell ⟨w.heap.size, 7, none⟩ (.int .i64 0)) = W9 := ⟨_, rfl⟩
  rw [CY] at fG kn ⊢;clear CY;have n0 : W9.cell? ⟨w.heap.size, 0, none⟩ = some (.int .i64 0) := acC W9 w.heap.size 0 _ 66 (0, 0) fG;have n1 : W9.cell? ⟨w.heap.size, 1, none⟩ = some (.int .i64 0) := acC W9 w.heap.size 1 _ 66 (0, 0) fG;have n2 : W9.cell? ⟨w.heap.size, 2, none⟩ = some (.int .i64 0) := acC W9 w.heap.size 2 _ 66 (0, 0) fG;have n3 : W9.cell? ⟨w.heap.size, 3, none⟩ = some (.int .i64 0) := acC W9 w.heap.size 3 _ 66 (0, 0) fG;have n4 : W9.cell? ⟨w.heap.size, 4, none⟩ = some (.int .i64 0) := acC W9 w.heap.size 4 _ 66 (0, 0) fG;have n5 : W9.cell? ⟨w.heap.size, 5, none⟩ = some (.int .i64 0) := acC W9 w.heap.size 5 _ 66 (0, 0) fG;have n6 : W9.cell? ⟨w.heap.size, 6, none⟩ = some (.int .i64 0) := acC W9 w.heap.size 6 _ 66 (0, 0) fG;have n7 : W9.cell? ⟨w.heap.size, 7, none⟩ = some (.int .i64 0) := acC W9 w.heap.size 7 _ 66 (0, 0) fG;have kQ : w.heap.size < W9.heap.size := lt_of_cell n0;clear fG;rw [HR.out];refine ac0 (v := .tuple #[.agg #[.int .i64 0, .int .i64 0, .int .i64 0, .int .i64 0, .int .i64 0, .int .i64 0, .int .i64 0, .int .i64 0], .bool false, .int .i64 80]) (by simp [results, results180, go_sem, n0, n1, n2, n3, n4, n5, n6, n7, kQ]) rfl ⟨rfl, kn⟩
 ·obtain ⟨hf, hq0, hq1⟩ := hun rfl;have HF := af hf;clear hun hf;by_cases h1 : m < q
  focus
   have HR : Hid (gy L n m = (iG, false, 81)) := af (by unfold gy; rw [HF.out]; dsimp only; rw [acW (.inl h1)])
  rotate_left
  focus
   by_cases h2 : m < 1
   focus
    have HR : Hid (gy L n m = (iG, false, 81)) := af (by unfold gy; rw [HF.out]; dsimp only; rw [acW (.inr h2)])
   rotate_left
   ·by_cases h3 : m = q
    ·have HR : Hid (gy L n m = (⟨e1, e2, e3, e4, e5, e6, e7, e8⟩, true, 0)) := af (by unfold gy; rw [HF.out]; dsimp only; rw [acO (by omega), acW h3]);subst h3;go_wp2;have fG := Nc Y w.heap.size 66 _ _ _ _ _ _ _ _ (.int .i64 e1) (.int .i64 e2) (.int .i64 e3) (.int .i64 e4) (.int .i64 e5) (.int .i64 e6) (.int .i64 e7) (.int .i64 e8) oO.out;have kn := CX (.int .i64 e1) (.int .i64 e2) (.int .i64 e3) (.int .i64 e4) (.int .i64 e5) (.int .i64 e6) (.int .i64 e7) (.int .i64 e8) eI.out (acE _);obtain ⟨W9, CY⟩ : ∃ W9, ((((((((Y.setCell ⟨w.heap.size, 0, none⟩ (.int .i64 e1)).setCell ⟨w.heap.size, 1, none⟩ (.int .i64 e2)).setCell ⟨w.heap.size, 2, none⟩ (.int .i64 e3)).setCell ⟨w.heap.size, 3, none⟩ (.int .i64 e4)).setCell ⟨w.heap.size, 4, none⟩ (.int .i64 e5)).setCell ⟨w.heap.size, 5, none⟩ (.int .i64 e6)).setCell ⟨w.heap.size, 6, none⟩ (.int .i64 e7)).setCell ⟨w.heap.size, 7, none⟩ (.int .i64 e8)) = W9 := ⟨_, rfl⟩
     rw [CY] at fG kn ⊢;clear CY;have n0 : W9.cell? ⟨w.heap.size, 0, none⟩ = some (.int .i64 e1) := acC W9 w.heap.size 0 _ 66 (0, 0) fG;have n1 : W9.cell? ⟨w.heap.size, 1, none⟩ = some (.int .i64 e2) := acC W9 w.heap.size 1 _ 66 (0, 0) fG;have n2 : W9.cell? ⟨w.heap.size, 2, none⟩ = some (.int .i64 e3) := acC W9 w.heap.size 2 _ 66 (0, 0) fG;have n3 : W9.cell? ⟨w.heap.size, 3, none⟩ = some (.int .i64 e4) := acC W9 w.heap.size 3 _ 66 (0, 0) fG;have n4 : W9.cell? ⟨w.heap.size, 4, none⟩ = some (.int .i64 e5) := acC W9 w.heap.size 4 _ 66 (0, 0) fG;have n5 : W9.cell? ⟨w.heap.size, 5, none⟩ = some (.int .i64 e6) := acC W9 w.heap.size 5 _ 66 (0, 0) fG;have n6 : W9.cell? ⟨w.heap.size, 6, none⟩ = some (.int .i64 e7) := acC W9 w.heap.size 6 _ 66 (0, 0) fG;have n7 : W9.cell? ⟨w.heap.size, 7, none⟩ = some (.int .i64 e8) := acC W9 w.heap.size 7 _ 66 (0, 0) fG;have kQ : w.heap.size < W9.heap.size := lt_of_cell n0;clear fG;rw [HR.out];refine ac0 (v := .tuple #[.agg #[.int .i64 e1, .int .i64 e2, .int .i64 e3, .int .i64 e4, .int .i64 e5, .int .i64 e6, .int .i64 e7, .int .i64 e8], .bool true, .int .i64 0]) (by simp [results, results180, go_sem, n0, n1, n2, n3, n4, n5, n6, n7, kQ]) rfl ⟨rfl, kn⟩
    ·by_cases h4 : q + 1 < m
     ·have HR : Hid (gy L n m = (iG, false, 82)) := af (by unfold gy; rw [HF.out]; dsimp only; rw [acO (by omega), acO h3, acW h4]);go_wp2;have fG := Nc Y w.heap.size 66 _ _ _ _ _ _ _ _ (.int .i64 0) (.int .i64 0) (.int .i64 0) (.int .i64 0) (.int .i64 0) (.int .i64 0) (.int .i64 0) (.int .i64 0) oO.out;have kn := CX (.int .i64 0) (.int .i64 0) (.int .i64 0) (.int .i64 0) (.int .i64 0) (.int .i64 0) (.int .i64 0) (.int .i64 0) eI.out (acE _);obtain ⟨W9, CY⟩ : ∃ W9, ((((((((Y.setCell ⟨w.heap.size, 0, none⟩ (.int .i64 0)).setCell ⟨w.heap.size, 1, none⟩ (.int .i64 0)).setCell ⟨w.heap.size, 2, none⟩ (.int .i64 0)).setCell ⟨w.heap.size, 3, none⟩ (.int .i64 0)).setCell ⟨w.heap.size, 4, none⟩ (.int .i64 0)).setCell ⟨w.heap.size, 5, none⟩ (.int .i64 0)).setCell ⟨w.heap.size, 6, none⟩ (.int .i64 0)).setCell ⟨w.heap.size, 7, none⟩ (.int .i64 0)) = W9 := ⟨_, rfl⟩
      rw [CY] at fG kn ⊢;clear CY;have n0 : W9.cell? ⟨w.heap.size, 0, none⟩ = some (.int .i64 0) := acC W9 w.heap.size 0 _ 66 (0, 0) fG;have n1 : W9.cell? ⟨w.heap.size, 1, none⟩ = some (.int .i64 0) := acC W9 w.heap.size 1 _ 66 (0, 0) fG;have n2 : W9.cell? ⟨w.heap.size, 2, none⟩ = some (.int .i64 0) := acC W9 w.heap.size 2 _ 66 (0, 0) fG;have n3 : W9.cell? ⟨w.heap.size, 3, none⟩ = some (.int .i64 0) := acC W9 w.heap.size 3 _ 66 (0, 0) fG;have n4 : W9.cell? ⟨w.heap.size, 4, none⟩ = some (.int .i64 0) := acC W9 w.heap.size 4 _ 66 (0, 0) fG;have n5 : W9.cell? ⟨w.heap.size, 5, none⟩ = some (.int .i64 0) := acC W9 w.heap.size 5 _ 66 (0, 0) fG;have n6 : W9.cell? ⟨w.heap.size, 6, none⟩ = some (.int .i64 0) := acC W9 w.heap.size 6 _ 66 (0, 0) fG;have n7 : W9.cell? ⟨w.heap.size, 7, none⟩ = some (.int .i64 0) := acC W9 w.heap.size 7 _ 66 (0, 0) fG;have kQ : w.heap.size < W9.heap.size := lt_of_cell n0;clear fG;rw [HR.out];refine ac0 (v := .tuple #[.agg #[.int .i64 0, .int .i64 0, .int .i64 0, .int .i64 0, .int .i64 0, .int .i64 0, .int .i64 0, .int .i64 0], .bool false, .int .i64 82]) (by simp [results, results180, go_sem, n0, n1, n2, n3, n4, n5, n6, n7, kQ]) rfl ⟨rfl, kn⟩
     ·have HR : Hid (gy L n m = (iG, false, 0)) := af (by unfold gy; rw [HF.out]; dsimp only; rw [acO (by omega), acO h3, acO h4]);go_wp2;have fG := Nc Y w.heap.size 66 _ _ _ _ _ _ _ _ (.int .i64 0) (.int .i64 0) (.int .i64 0) (.int .i64 0) (.int .i64 0) (.int .i64 0) (.int .i64 0) (.int .i64 0) oO.out;have kn := CX (.int .i64 0) (.int .i64 0) (.int .i64 0) (.int .i64 0) (.int .i64 0) (.int .i64 0) (.int .i64 0) (.int .i64 0) eI.out (acE _);obtain ⟨W9, CY⟩ : ∃ W9, ((((((((Y.setCell ⟨w.heap.size, 0, none⟩ (.int .i64 0)).setCell ⟨w.heap.size, 1, none⟩ (.int .i64 0)).setCell ⟨w.heap.size, 2, none⟩ (.int .i64 0)).setCell ⟨w.heap.size, 3, none⟩ (.int .i64 0)).setCell ⟨w.heap.size, 4, none⟩ (.int .i64 0)).setCell ⟨w.heap.size, 5, none⟩ (.int .i64 0)).setCell ⟨w.heap.size, 6, none⟩ (.int .i64 0)).setCell ⟨w.heap.size, 7, none⟩ (.int .i64 0)) = W9 := ⟨_, rfl⟩
      rw [CY] at fG kn ⊢;clear CY;have n0 : W9.cell? ⟨w.heap.size, 0, none⟩ = some (.int .i64 0) := acC W9 w.heap.size 0 _ 66 (0, 0) fG;have n1 : W9.cell? ⟨w.heap.size, 1, none⟩ = some (.int .i64 0) := acC W9 w.heap.size 1 _ 66 (0, 0) fG;have n2 : W9.cell? ⟨w.heap.size, 2, none⟩ = some (.int .i64 0) := acC W9 w.heap.size 2 _ 66 (0, 0) fG;have n3 : W9.cell? ⟨w.heap.size, 3, none⟩ = some (.int .i64 0) := acC W9 w.heap.size 3 _ 66 (0, 0) fG;have n4 : W9.cell? ⟨w.heap.size, 4, none⟩ = some (.int .i64 0) := acC W9 w.heap.size 4 _ 66 (0, 0) fG;have n5 : W9.cell? ⟨w.heap.size, 5, none⟩ = some (.int .i64 0) := acC W9 w.heap.size 5 _ 66 (0, 0) fG;have n6 : W9.cell? ⟨w.heap.size, 6, none⟩ = some (.int .i64 0) := acC W9 w.heap.size 6 _ 66 (0, 0) fG;have n7 : W9.cell? ⟨w.heap.size, 7, none⟩ = some (.int .i64 0) := acC W9 w.heap.size 7 _ 66 (0, 0) fG;have kQ : w.heap.size < W9.heap.size := lt_of_cell n0;clear fG;rw [HR.out];refine ac0 (v := .tuple #[.agg #[.int .i64 0, .int .i64 0, .int .i64 0, .int .i64 0, .int .i64 0, .int .i64 0, .int .i64 0, .int .i64 0], .bool false, .int .i64 0]) (by simp [results, results180, go_sem, n0, n1, n2, n3, n4, n5, n6, n7, kQ]) rfl ⟨rfl, kn⟩
  all_goals
   go_wp2;have fG := Nc Y w.heap.size 66 _ _ _ _ _ _ _ _ (.int .i64 0) (.int .i64 0) (.int .i64 0) (.int .i64 0) (.int .i64 0) (.int .i64 0) (.int .i64 0) (.int .i64 0) oO.out;have kn := CX (.int .i64 0) (.int .i64 0) (.int .i64 0) (.int .i64 0) (.int .i64 0) (.int .i64 0) (.int .i64 0) (.int .i64 0) eI.out (acE _);obtain ⟨W9, CY⟩ : ∃ W9, ((((((((Y.setCell ⟨w.heap.size, 0, none⟩ (.int .i64 0)).setCell ⟨w.heap.size, 1, none⟩ (.int .i64 0)).setCell ⟨w.heap.size, 2, none⟩ (.int .i64 0)).setCell ⟨w.heap.size, 3, none⟩ (.int .i64 0)).setCell ⟨w.heap.size, 4, none⟩ (.int .i64 0)).setCell ⟨w.heap.size, 5, none⟩ (.int .i64 0)).setCell ⟨w.heap.size, 6, none⟩ (.int .i64 0)).setCell ⟨w.heap.size, 7, none⟩ (.int .i64 0)) = W9 := ⟨_, rfl⟩
   rw [CY] at fG kn ⊢;clear CY;have n0 : W9.cell? ⟨w.heap.size, 0, none⟩ = some (.int .i64 0) := acC W9 w.heap.size 0 _ 66 (0, 0) fG;have n1 : W9.cell? ⟨w.heap.size, 1, none⟩ = some (.int .i64 0) := acC W9 w.heap.size 1 _ 66 (0, 0) fG;have n2 : W9.cell? ⟨w.heap.size, 2, none⟩ = some (.int .i64 0) := acC W9 w.heap.size 2 _ 66 (0, 0) fG;have n3 : W9.cell? ⟨w.heap.size, 3, none⟩ = some (.int .i64 0) := acC W9 w.heap.size 3 _ 66 (0, 0) fG;have n4 : W9.cell? ⟨w.heap.size, 4, none⟩ = some (.int .i64 0) := acC W9 w.heap.size 4 _ 66 (0, 0) fG;have n5 : W9.cell? ⟨w.heap.size, 5, none⟩ = some (.int .i64 0) := acC W9 w.heap.size 5 _ 66 (0, 0) fG;have n6 : W9.cell? ⟨w.heap.size, 6, none⟩ = some (.int .i64 0) := acC W9 w.heap.size 6 _ 66 (0, 0) fG;have n7 : W9.cell? ⟨w.heap.size, 7, none⟩ = some (.int .i64 0) := acC W9 w.heap.size 7 _ 66 (0, 0) fG;have kQ : w.heap.size < W9.heap.size := lt_of_cell n0;clear fG;rw [HR.out];refine ac0 (v := .tuple #[.agg #[.int .i64 0, .int .i64 0, .int .i64 0, .int .i64 0, .int .i64 0, .int .i64 0, .int .i64 0, .int .i64 0], .bool false, .int .i64 81]) (by simp [results, results180, go_sem, n0, n1, n2, n3, n4, n5, n6, n7, kQ]) rfl ⟨rfl, kn⟩
theorem Nf {L : List St} {n m : Int} (h : (gy L n m).2.2 = 0) (hd : (gy L n m).2.1 = false) (ho : dS L) : ∃ y, cK L n = some y ∧ m = y.q + 1 ∧ y ∈ L ∧ y.s = n ∧ 0 ≤ y.q ∧ y.q ≤ 1099511627776 ∧ 1 ≤ n ∧ n ≤ 1099511627776 := by
 unfold gy at h hd;cases hf : cK L n with
 | none => rw [hf] at h; simp at h
 | some y =>
  rw [hf] at h hd;dsimp only at h hd;obtain ⟨hy, hs⟩ := kM hf;have aT := St.aO.1 (ho.ok y hy);refine ⟨y, rfl, ?_, hy, hs, aT.2.1.1, aT.2.1.2, by rw [← hs]; exact aT.1.1, by rw [← hs]; exact aT.1.2⟩
  split at h
  ·simp at h
  ·rename_i h1
   split at h
   ·rename_i h2;rw [acO h1, acW h2] at hd;simp at hd
   ·split at h
    ·simp at h
    ·omega
theorem yW {w : World} {g b : Nat} {L : List St} (h : d_ w g b L) {n m a : Int} {r : Rp} (hk : (Lit.int .i64 n).wf = true) (Vt : -9223372036854775808 ≤ m) (Aw : m ≤ 9223372036854775807) : Calls prog 182 #[.pointer (some ⟨g, 0, none⟩), .int .i64 n, .int .i64 m, .int .i64 a, wY r] w (sE w g b (f_ L n m a r).1 (f_ L n m a r).2) := by
 obtain ⟨A, hA⟩ : ∃ A, w.alloc (.cells (vU r).toArray 66) = A := ⟨_, rfl⟩
 have UI : d_ A g b L := by rw [← hA]; exact h.alloc _
 have hcA : ak w A (fun _ => False) := by rw [← hA]; exact (ak.refl w _).alloc _
 have H_ : ∀ i v, (vU r)[i]? = some v → A.cell? ⟨w.heap.size, i, none⟩ = some v := fun i v hi => by rw [← hA, adX]; simpa using hi
 have hwA : w.heap.size < A.heap.size := by rw [← hA]; simp
 have Hk := af (rl UI hk Vt Aw);have HH := af UI;have Zs := af hcA;have HK := af hk;have Hs := af H_;have fh : Hid (dS (f_ L n m a r).2) := af (h.ok.keep n m a r);have Um := af h.ok;have eH := fun w => km w ⟨n, m, a, r⟩;obtain ⟨p, hp⟩ : ∃ p, gy L n m = p := ⟨_, rfl⟩
 rw [hp] at Hk;have HP := af hp;clear h UI hcA H_ hk hp;obtain ⟨r', d, er⟩ := p;unfold vU at hA Hs;unfold wY;go_enter func182, ntmps182
 go_wp2_with fail
 refine Hk.out.mono ?_;rintro e X ⟨rfl, oK⟩;dsimp only;have hX := HH.out.below oK;have HX := af hX;have kg := Zs.out.cC oK;have qQ := af kg;have VP : w.heap.size < X.heap.size := acV hwA oK.size;have xr : ∀ i v, (vU r)[i]? = some v → X.cell? ⟨w.heap.size, i, none⟩ = some v := fun i v hi => (oK.cell (p := ⟨w.heap.size, i, none⟩) hwA).trans (Hs.out i v hi);clear oK hX kg;obtain ⟨r1, r2, r3, r4, r5, r6, r7, r8⟩ := r';unfold wY;dsimp only;obtain ⟨Y, hY⟩ : ∃ Y, X.alloc (.cells #[.int .i64 r1, .int .i64 r2, .int .i64 r3, .int .i64 r4, .int .i64 r5, .int .i64 r6, .int .i64 r7, .int .i64 r8] 66) = Y := ⟨_, rfl⟩
 have HY : Hid (d_ Y g b L) := af (by rw [← hY]; exact HX.out.alloc _);have Ao : Hid (ak w Y (fun _ => False)) := af (by rw [← hY]; exact qQ.out.alloc _);have yr : ∀ i v, (vU r)[i]? = some v → Y.cell? ⟨w.heap.size, i, none⟩ = some v := fun i v hi => by rw [← hY]; exact acX _ (xr i v hi)
 clear xr;have RJ := af yr;clear yr;by_cases he : er = 0
 ·subst he;cases d
  ·obtain ⟨y, Ya, Wm, hy, Rs, hy0, LL, VL, zy⟩ := Nf (L := L) (n := n) (m := m) (by rw [HP.out]) (by rw [HP.out]) Um.out;have xQ : f_ L n m a r = if (⟨n, m, a, r⟩ : St).ok then (0, ig L ⟨n, m, a, r⟩) else (1, L) := by
    unfold f_;rw [HP.out];rfl
   have y0 := RJ.out 0 _ rfl;have y1 := RJ.out 1 _ rfl;have y2 := RJ.out 2 _ rfl;have y3 := RJ.out 3 _ rfl;have y4 := RJ.out 4 _ rfl;have y5 := RJ.out 5 _ rfl;have y6 := RJ.out 6 _ rfl;have y7 := RJ.out 7 _ rfl;have HF := af (acD Ya Wm);have eJ := af xQ;clear Ya Wm xQ hy Rs hy0 LL;obtain ⟨Z, hZ⟩ : ∃ Z, Y.alloc (.cells #[.int .i64 n, .int .i64 m, .int .i64 a, .int .i64 r.er, .int .i64 r.rs, .int .i64 r.gn, .int .i64 r.ad, .int .i64 r.sa, .int .i64 r.ot, .int .i64 r.cy, .int .i64 r.fu] 84) = Z := ⟨_, rfl⟩
   have HZ : Hid (d_ Z g b L) := af (by rw [← hZ]; exact HY.out.alloc _);have VQ : Hid (ak w Z (fun _ => False)) := af (by rw [← hZ]; exact Ao.out.alloc _);have JC : ∀ i v, (mN ⟨n, m, a, r⟩)[i]? = some v → Z.cell? ⟨Y.heap.size, i, none⟩ = some v := fun i v hi => by
    rw [← hZ, adX];unfold mN at hi
    simpa using hi
   have hyZ : Y.heap.size < Z.heap.size := by rw [← hZ]; simp
   have z0 : Z.cell? ⟨Y.heap.size, 0, none⟩ = some (.int .i64 n) := JC 0 _ rfl;have z1 : Z.cell? ⟨Y.heap.size, 1, none⟩ = some (.int .i64 m) := JC 1 _ rfl;have z2 : Z.cell? ⟨Y.heap.size, 2, none⟩ = some (.int .i64 a) := JC 2 _ rfl;have z3 : Z.cell? ⟨Y.heap.size, 3, none⟩ = some (.int .i64 r.er) := JC 3 _ rfl;have z4 : Z.cell? ⟨Y.heap.size, 4, none⟩ = some (.int .i64 r.rs) := JC 4 _ rfl;have z5 : Z.cell? ⟨Y.heap.size, 5, none⟩ = some (.int .i64 r.gn) := JC 5 _ rfl;have z6 : Z.cell? ⟨Y.heap.size, 6, none⟩ = some (.int .i64 r.ad) := JC 6 _ rfl;have z7 : Z.cell? ⟨Y.heap.size, 7, none⟩ = some (.int .i64 r.sa) := JC 7 _ rfl;have z8 : Z.cell? ⟨Y.heap.size, 8, none⟩ = some (.int .i64 r.ot) := JC 8 _ rfl;have z9 : Z.cell? ⟨Y.heap.size, 9, none⟩ = some (.int .i64 r.cy) := JC 9 _ rfl;have z10 : Z.cell? ⟨Y.heap.size, 10, none⟩ = some (.int .i64 r.fu) := JC 10 _ rfl;have HZR := af JC;clear JC;cases aT : (⟨n, m, a, r⟩ : St).ok
   ·rw [aT] at eH;have HR : Hid (f_ L n m a r = (1, L)) := af (by rw [eJ.out, aT]; rfl);clear aT;unfold nC at eH;dsimp only at eH;go_wp2_with fail
    refine (eH _).mono ?_;rintro e w3 ⟨rfl, cF⟩;have fH := af cF;clear cF;go_wp2;go_ret;rw [HR.out];exact ⟨by rfl, HZ.out.below fH.out, (VQ.out.cC fH.out).Ad _⟩
   ·rw [aT] at eH;have HR : Hid (f_ L n m a r = (0, ig L ⟨n, m, a, r⟩)) := af (by rw [eJ.out, aT]; rfl);clear aT;unfold nC at eH;dsimp only at eH;go_wp2_with fail
    refine (eH _).mono ?_;rintro e w3 ⟨rfl, cF⟩;have h3 := HZ.out.below cF;have c0 := h3.c0;have GD : ∀ i v, (mN ⟨n, m, a, r⟩)[i]? = some v → w3.cell? ⟨Y.heap.size, i, none⟩ = some v := fun i v hi => (cF.cell (p := ⟨Y.heap.size, i, none⟩) hyZ).trans (HZR.out i v hi);have x0 : w3.cell? ⟨Y.heap.size, 0, none⟩ = some (.int .i64 n) := GD 0 _ rfl;have x1 : w3.cell? ⟨Y.heap.size, 1, none⟩ = some (.int .i64 m) := GD 1 _ rfl;have x2 : w3.cell? ⟨Y.heap.size, 2, none⟩ = some (.int .i64 a) := GD 2 _ rfl;have x3 : w3.cell? ⟨Y.heap.size, 3, none⟩ = some (.int .i64 r.er) := GD 3 _ rfl;have x4 : w3.cell? ⟨Y.heap.size, 4, none⟩ = some (.int .i64 r.rs) := GD 4 _ rfl;have x5 : w3.cell? ⟨Y.heap.size, 5, none⟩ = some (.int .i64 r.gn) := GD 5 _ rfl;have x6 : w3.cell? ⟨Y.heap.size, 6, none⟩ = some (.int .i64 r.ad) := GD 6 _ rfl;have x7 : w3.cell? ⟨Y.heap.size, 7, none⟩ = some (.int .i64 r.sa) := GD 7 _ rfl;have x8 : w3.cell? ⟨Y.heap.size, 8, none⟩ = some (.int .i64 r.ot) := GD 8 _ rfl;have x9 : w3.cell? ⟨Y.heap.size, 9, none⟩ = some (.int .i64 r.cy) := GD 9 _ rfl;have JD : w3.cell? ⟨Y.heap.size, 10, none⟩ = some (.int .i64 r.fu) := GD 10 _ rfl;obtain ⟨D, hD⟩ := h3.map;have M7 : iN w3.drew b L D := hD.drewN 1;obtain ⟨w4, D4, dB, lz, GR⟩ := M7.store (x := ⟨n, m, a, r⟩) HK.out (by have := Um.out.len; simp [maxLen]; omega);unfold nC at dB;dsimp only at dB;have H3 := af (acD cF (acD lz GR));have HT3 := af h3;clear cF lz GR h3 GD hD M7;go_wp2;go_region
    all_goals
     go_wp2;go_ret;have TB : ak w3.drew w4 (fun k => k = b) := ak.aV H3.out.2.1 _ (fun k e => by injection e with e; exact .inl e.symm);have hcd : ak w3 w4 (fun k => k = b) := ((ak.refl w3 (fun k => k = b)).drewN 1).trans TB fun k hk => .inl hk;rw [HR.out] at fh ⊢;exact ⟨by rfl, HT3.out.yo hcd H3.out.2.2 fh.out, ((VQ.out.cC H3.out.1).Ad _).trans hcd fun k hk => .inl hk⟩
  ·have HR : Hid (f_ L n m a r = (81, L)) := af (by unfold f_; rw [HP.out]; rfl);go_wp2;go_ret;rw [HR.out];exact ⟨by rfl, HY.out, Ao.out.Ad _⟩
 ·have HR : Hid (f_ L n m a r = (er, L)) := af (by unfold f_; rw [HP.out]; exact acW he);go_wp2;go_ret;rw [HR.out];exact ⟨by rfl, HY.out, Ao.out.Ad _⟩
theorem RI.came {D : DataW Value} {L : List St} (h : RI D L) {k : Int} {c : Array Value} {kl : Lit} {y : DataW Value × List MemPlace}
  (hk : keyOf prog 3 (.int .i64 k) = some kl) (hv : ic (.agg c) = some y) (aG : ∀ zd, D.atKey kl zd = y.1) : ∃ x, x ∈ L ∧ k = x.s ∧ kl = .int .i64 x.s ∧ c = (mN x).toArray := by
 obtain ⟨k', e, J7, hwf⟩ := Maps.keyOf_int_inv aee hk;injection e with _ e;subst e;subst J7;have hh := Maps.has_true_of_atKey aG;rw [h.keys] at hh;obtain ⟨x, hx⟩ := adG.1 hh;have e1 := h.vals _ x hx .nil;rw [aG, (kI hv).2] at e1;injection e1 with e1;injection e1 with e1;obtain ⟨h1, h2⟩ := kM hx;exact ⟨x, h1, h2.symm, by rw [h2], e1⟩
theorem uT {L : List St} (h : fT L) {x : St} (hx : x ∈ L) : (L.filter fun y => decide (y.s ≠ x.s)).length + 1 = L.length := by
 induction L with
 | nil => simp at hx
 | cons y r ih =>
  obtain ⟨h1, h2⟩ := ac_.1 h;rcases ac9.1 hx with rfl | hx
  ·rw [adU (by simp), ae2.2 (fun z hz => by have := h1 z hz; simp; omega)];rfl
  ·have := h1 x hx;rw [adW (by simp; omega), acZ, acZ, ih h2 hx]
theorem RI.del {D : DataW Value} {L : List St} (h : RI D L) (ht : Maps.Tidy D) {x : St} (hx : x ∈ L) : RI (D.del (.int .i64 x.s)) (L.filter fun y => decide (y.s ≠ x.s)) := by
 have hf := iM h.rises.ids hx;refine ⟨?_, fun k => ?_, fun k y hy => ?_, h.rises.sublist aeK⟩
 ·have h1 := Maps.size_del (k := .int .i64 x.s) ht;rw [h.keys, hf, h.size] at h1;have h2 := uT h.rises hx;simp at h1;omega
 ·rw [rP h.rises.ids];by_cases e : k = x.s
  ·subst e;rw [Maps.has_del_same, hf];simp
  ·rw [Maps.has_del_other (fun h => e (by injection h)), h.keys];cases hk : cK L k with
   | none => rfl
   | some y =>
    have := (kM hk).2;simp [this, e]
 ·rw [rP h.rises.ids] at hy;intro z;have aN : k ≠ x.s := by
   intro e;subst e;rw [hf] at hy;simp at hy;obtain ⟨rfl, hy⟩ := hy;exact hy rfl
  rw [Maps.atKey_del_other (fun h => aN (by injection h))];refine h.vals k y ?_ z;cases hk : cK L k with
  | none => rw [hk] at hy; simp at hy
  | some u =>
   rw [hk, aef] at hy
   split at hy
   ·exact hy
   ·simp at hy
def pR (L : List St) (left : Lit → Bool) (f : Int) : List St := L.filter fun x => left (.int .i64 x.s) || decide (f ≤ x.a)
theorem CZ {L : List St} {left : Lit → Bool} {f : Int} (h : ∀ x ∈ L, left (.int .i64 x.s) = true) : pR L left f = L := ae2.2 fun x hx => by rw [h x hx]; rfl
theorem JE {L : List St} {left : Lit → Bool} {f : Int} (h : ∀ k, left k = false) : pR L left f = vX L f := aeH fun x hx => by rw [h]; rfl
theorem yz {L : List St} (h : fT L) {x y : St} (hx : x ∈ L) (hy : y ∈ L) (e : x.s = y.s) : x = y := by
 have h1 := iM h.ids hx;rw [e, iM h.ids hy] at h1;injection h1 with h1;exact h1.symm
theorem JF {L : List St} (h : fT L) {left : Lit → Bool} {f : Int} {x : St} (hx : x ∈ L) (hf : f ≤ x.a) : pR L (fun z => left z && !z.sameKey (.int .i64 x.s)) f = pR L left f := by
 refine aeH fun y hy => ?_;dsimp only;rw [jy];by_cases e : y.s = x.s
 ·obtain rfl := yz h hy hx e;simp [hf]
 ·simp [e]
theorem Qe {L : List St} (h : fT L) {left : Lit → Bool} {f : Int} {x : St} (hx : x ∈ L) (hf : x.a < f) : pR L (fun z => left z && !z.sameKey (.int .i64 x.s)) f = (pR L left f).filter fun y => decide (y.s ≠ x.s) := by
 unfold pR;rw [List.filter_filter];refine aeH fun y hy => ?_;dsimp only;rw [jy];by_cases e : y.s = x.s
 ·obtain rfl := yz h hy hx e;simp;omega
 ·simp [e]
theorem Qf (L : List St) (left : Lit → Bool) (f : Int) : (pR L left f).length ≤ L.length := adF _ _
theorem sT {w : World} {g b : Nat} {L : List St} (h : d_ w g b L) (f : Int) : Calls prog 150 #[.pointer (some ⟨g, 0, none⟩), .int .i64 f] w (sE w g b ((L.length : Int) - (vX L f).length) (vX L f)) := by
 have HM := af (fU h.c0);have HH := af h;have P8 := h.ok.len;have Bn := af h.ok.rises;have fh : Hid (dS (vX L f)) := af (h.ok.exp f);clear h;go_enter func150, ntmps150
 go_wp2_with fail
 refine HM.out.mono ?_;rintro e X ⟨rfl, kg⟩;have hX := HH.out.aU kg (fun e => e) (fun e => e);have c0 := hX.c0;obtain ⟨D, hD⟩ := hX.map;have dG := hD.map;have HD := af hD;have HX := af hX;have qQ := af kg;have oK := hX.bl;have TJ := hX.gl;have lw : g ≠ b := hX.ne;clear hX hD kg;go_wp2_with (first | (at_range; refine wpList_range_own _ rfl _ 171 rfl 3 84 fe ael _ b L.length D rfl dG ?_; intro w0 uF oe vD) | go_in)
 go_frame
 have h0 : RI D (pR L (Maps.has D) f) := by
  rw [CZ fun x hx => by rw [HD.out.rd.keys, iM HD.out.rd.rises.ids hx]; rfl];exact HD.out.rd
 have YO : (pR L (Maps.has D) f).length = L.length := by
  rw [CZ fun x hx => by rw [HD.out.rd.keys, iM HD.out.rd.rises.ids hx]; rfl]
 have M4 : ak X w0 (fun k => k = b ∨ k = X.heap.size) := ak.aV oe _ (fun k e => by cases e);have zF := af uF;have zn := af vD;have H0 := af (acD h0 (acD YO M4));clear uF oe vD h0 YO M4 dG;go_loopw [5] (fun n wr => ∃ left cnt D', wr.ranges prog 3 ic b X.heap.size L.length D' left cnt ∧ RI D' (pR L left f) ∧ n = .int .i64 ((L.length - (pR L left f).length : Nat) : Int) ∧ ak X wr (fun k => k = b ∨ k = X.heap.size) ∧ X.heap.size + 1 ≤ wr.heap.size) (fun _ wr => wr.rangeLeft b X.heap.size)
 case atStart => exact ⟨_, _, _, zF.out, H0.out.1, by rw [H0.out.2.1, afa]; rfl, H0.out.2.2, by have := zn.out; omega⟩
 case round =>
  obtain ⟨left, cnt, D', vG, dk, rfl, Uz, kt⟩ := hrel;have yI := Qf L left f;obtain ⟨m, hm⟩ : ∃ m, L.length - (pR L left f).length = m := ⟨_, rfl⟩
  rw [hm];have hm8 : m ≤ 8 := by omega
  have UA := af (acD hm yI);have qM := af vG;have o0 := af dk;have Jy := af Uz;have c0r : wr.cell? ⟨g, 0, none⟩ = some (.map (some b)) := Uz.cell c0 (by simp; omega);clear dk Uz hm yI;go_wp2_with (first | (at_next; refine wpList_next_ranges _ rfl _ rfl 3 fe ic (Value.int .i64) Value.agg (fun key kl h => pN h) (fun v y h => (kI h).1) b X.heap.size L.length D' left cnt rfl vG ?_ ?_) | go_in)
  ·intro II Kd;have Gs := JE (L := L) (f := f) Kd;have HDA := af Gs;clear vG Gs;go_wp2;go_ret;have Nu := UA.out;have dk := o0.out;rw [HDA.out] at Nu dk;have hn : (m : Int) = (L.length : Int) - (vX L f).length := by omega
   have xm : ak X wr (fun k => k = b) := ⟨Jy.out.os, Jy.out.tape, Jy.out.output, Jy.out.size, fun k hk hn => Jy.out.block k hk (fun e => by
    rcases e with e | e
    ·exact hn e
    ·omega)⟩
   have htm : iN wr b (vX L f) D' := ⟨by rw [← dk.size]; exact gG qM.out.owns, dk⟩
   exact ⟨by rw [← hn]; rfl, HX.out.yo xm htm fh.out, (qQ.out.Ad _).trans xm fun k hk => .inl hk⟩
  ·intro k c kl y1 ps w1 ME qN sI hv aG si bd eQ dR hen;obtain ⟨x, UB, rfl, rfl, rfl⟩ := o0.out.came (y := (y1, ps)) qN hv aG;have hx : x ∈ L := (adT.1 UB).1;have P9 := af (acD UB hx);have Fv : ak X w1 (fun k => k = b ∨ k = X.heap.size) := Jy.out.trans (ak.aV eQ (fun k => k = b ∨ k = X.heap.size) (fun k e => by injection e with e; exact .inl (.inr e.symm))) fun k hk => .inl hk;have c01 : w1.cell? ⟨g, 0, none⟩ = some (.map (some b)) := Fv.cell c0 (by simp; omega);have UC := af si;have M5 := af Fv;have vy := af bd;have yZ := af sI;have UD := af qN;have eL := af dR;obtain ⟨s, q, a, ⟨e1, e2, e3, e4, e5, e6, e7, e8⟩⟩ := x;unfold mN at *;dsimp only at *;clear si Fv vG qN hv aG sI eQ dR bd hx UB;obtain ⟨Z, hZ⟩ : ∃ Z, w1.alloc (.cells #[.int .i64 s, .int .i64 q, .int .i64 a, .int .i64 e1, .int .i64 e2, .int .i64 e3, .int .i64 e4, .int .i64 e5, .int .i64 e6, .int .i64 e7, .int .i64 e8] 84) = Z := ⟨_, rfl⟩
   have c0Z : Z.cell? ⟨g, 0, none⟩ = some (.map (some b)) := by rw [← hZ]; exact acX _ c01
   have sk := fx UC.out (ada w1 (.cells #[.int .i64 s, .int .i64 q, .int .i64 a, .int .i64 e1, .int .i64 e2, .int .i64 e3, .int .i64 e4, .int .i64 e5, .int .i64 e6, .int .i64 e7, .int .i64 e8] 84) none) (by simp) (by simp);rw [hZ] at sk;have MY : ak X Z (fun k => k = b ∨ k = X.heap.size) := by rw [← hZ]; exact M5.out.alloc _
   have Fq : X.heap.size + 1 ≤ Z.heap.size := by rw [← hZ]; have := eL.out; simp; omega
   have z2 : Z.cell? ⟨w1.heap.size, 2, none⟩ = some (.int .i64 a) := by rw [← hZ, adX]; rfl
   have Nw := af sk;have yv := af (acD MY Fq);clear sk MY Fq;by_cases haf : a < f
   ·have hgo := Qe Bn.out (left := left) P9.out.2 haf;have hlen := uT (o0.out.rises) P9.out.1;have z_ := o0.out.del (qM.out.owns.tidy fe) P9.out.1;rw [← hgo] at hlen z_;dsimp only at hlen z_ hgo;have HG := af (acD hlen z_);have sk := Nw.out;clear hgo hlen z_;go_wp2_with (at_delete; refine wpList_delete_ranges _ rfl _ _ 171 3 rfl 84 fe ael ic b X.heap.size L.length D' _ ME rfl sk _ _ rfl UD.out ?_; intro w2 abC Fw M6 uO)
    rw [Maps.strike_twice] at Fw;have Hj := af Fw;have Fo := af M6;have dO := uO.grown;have rX : ak X w2 (fun k => k = b ∨ k = X.heap.size) := yv.out.1.trans (ak.aV dO (fun k => k = b ∨ k = X.heap.size) (fun k e => by injection e with e; exact .inl (.inl e.symm))) fun k hk => .inl hk;have eF : X.heap.size + 1 ≤ w2.heap.size := acN yv.out.2 dO.size;have AL := af (acD rX eF);have sk := aev;clear Fw M6 uO dO rX eF;go_wp2;go_roundw;case rel => exact ⟨_, _, _, Hj.out, HG.out.2, (by have h1 := HG.out.1; have h2 := UA.out; have e : L.length - (pR L (fun z => left z && !z.sameKey (Lit.int .i64 s)) f).length = m + 1 := (by omega); rw [e]; go_num), AL.out.1, AL.out.2⟩
    case measure => rw [Hj.out.left_eq, qM.out.left_eq]; have := Fo.out; have := vy.out; omega
   ·have hst := JF Bn.out (left := left) P9.out.2 (show f ≤ a by omega);dsimp only at hst;have eH := af hst;clear hst;go_wp2;go_roundw;case rel => exact ⟨_, _, _, Nw.out, by rw [eH.out]; exact o0.out, by rw [eH.out, UA.out.1], yv.out.1, yv.out.2⟩
    case measure => rw [Nw.out.left_eq, qM.out.left_eq]; exact vy.out
end Go.Proofs.YtionbmlicmibgaaGreatDoor
