import Derived.Test.YtionbmlicmibgaaGreatDoorS5
set_option linter.unusedVariables false
set_option linter.unusedSimpArgs false
namespace Go.Proofs.YtionbmlicmibgaaGreatDoor
open Go.Proofs.Tryz
set_option maxRecDepth 200000
set_option maxHeartbeats 1100000
section
variable {α β : Type} {κ : α → Int}
def bj (κ : α → Int) (L : List α) (k : Int) : Option α := L.find? fun x => κ x == k
theorem fR {L : List α} {k : Int} {x : α} (h : bj κ L k = some x) : x ∈ L ∧ κ x = k := by
 have h1 := List.find?_some h;exact ⟨aeG h, by simpa using h1⟩
theorem kA {L : List α} {k : Int} : bj κ L k = none ↔ ∀ x ∈ L, κ x ≠ k := by
 unfold bj;rw [aeP];simp
def bw (κ : α → Int) (L : List α) : Prop := L.Pairwise fun x y => κ x < κ y
theorem bw.ids {L : List α} (h : bw κ L) : L.Pairwise fun x y => κ x ≠ κ y := List.Pairwise.imp (S := fun x y : α => κ x ≠ κ y) (fun {a b} (h : κ a < κ b) => by omega) (show L.Pairwise fun x y => κ x < κ y from h)
theorem gR {L : List α} (h : L.Pairwise fun x y => κ x ≠ κ y) {x : α} (hx : x ∈ L) : bj κ L (κ x) = some x := by
 induction L with
 | nil => simp at hx
 | cons y r ih =>
  rw [ac_] at h;unfold bj;rw [adx];rcases ac9.1 hx with rfl | hx
  ·simp
  ·have := h.1 x hx;simp only [adj.2 this];exact ih h.2 hx
def aH (κ : α → Int) : List α → α → List α
 | [], x => [x]
 | y :: r, x => if κ x < κ y then x :: y :: r else if κ x = κ y then x :: r else y :: aH κ r x
theorem uL (κ : α → Int) (L : List α) (x : α) (k : Int) : bj κ (aH κ L x) k = if κ x = k then some x else bj κ L k := by
 induction L with
 | nil =>
  unfold aH bj;by_cases h : κ x = k <;> simp [h]
 | cons y r ih =>
  unfold aH;by_cases h1 : κ x < κ y
  ·rw [acW h1];unfold bj;by_cases h : κ x = k <;> simp [adx, h]
  ·rw [acO h1];by_cases h2 : κ x = κ y
   ·rw [acW h2];unfold bj;by_cases h : κ x = k
    ·simp [adx, h]
    ·have : ¬ κ y = k := by omega
     simp [adx, h, this]
   ·rw [acO h2];unfold bj at ih ⊢;rw [adx, adx];by_cases h : κ y = k
    ·have : ¬ κ x = k := by omega
     simp [h, this]
    ·simp only [adj.2 h];exact ih
theorem MV {L : List α} {x y : α} (h : y ∈ aH κ L x) : y = x ∨ (y ∈ L ∧ κ y ≠ κ x) ∨ y ∈ L := by
 induction L with
 | nil =>
  unfold aH at h;simp at h;exact .inl h
 | cons z r ih =>
  unfold aH at h
  split at h
  ·rcases ac9.1 h with h | h
   ·exact .inl h
   ·exact .inr (.inr h)
  ·split at h
   ·rcases ac9.1 h with h | h
    ·exact .inl h
    ·exact .inr (.inr (ade _ h))
   ·rcases ac9.1 h with h | h
    ·exact .inr (.inr (by rw [h]; exact ac8 ..))
    ·rcases ih h with h | ⟨h, _⟩ | h
     ·exact .inl h
     ·exact .inr (.inr (ade _ h))
     ·exact .inr (.inr (ade _ h))
theorem fq {L : List α} {x y : α} (h : y ∈ aH κ L x) : y = x ∨ y ∈ L := by
 rcases MV h with h | ⟨h, _⟩ | h
 ·exact .inl h
 ·exact .inr h
 ·exact .inr h
theorem bw.ins {L : List α} (h : bw κ L) (x : α) : bw κ (aH κ L x) := by
 induction L with
 | nil => exact aeM _ _
 | cons y r ih =>
  obtain ⟨h1, h2⟩ := ac_.1 h;unfold aH
  split
  ·rename_i bd;refine ac_.2 ⟨fun z hz => ?_, h⟩;rcases ac9.1 hz with rfl | hz
   ·exact bd
   ·have := h1 z hz; omega
  ·split
   ·rename_i heq;exact ac_.2 ⟨fun z hz => by have := h1 z hz; omega, h2⟩
   ·refine ac_.2 ⟨fun z hz => ?_, ih h2⟩;rcases fq hz with rfl | hz
    ·omega
    ·exact h1 z hz
theorem mL {L : List α} (h : bw κ L) (x : α) : (aH κ L x).length = L.length + if (bj κ L (κ x)).isSome then 0 else 1 := by
 induction L with
 | nil => rfl
 | cons y r ih =>
  obtain ⟨h1, h2⟩ := ac_.1 h;unfold aH
  split
  ·rename_i bd;have : bj κ (y :: r) (κ x) = none := kA.2 fun z hz => by
    rcases ac9.1 hz with rfl | hz
    ·omega
    ·have := h1 z hz; omega
   rw [this];rfl
  ·split
   ·rename_i heq;have : bj κ (y :: r) (κ x) = some y := by
     unfold bj;rw [adx];simp [heq]
    rw [this];rfl
   ·rename_i aN;have : bj κ (y :: r) (κ x) = bj κ r (κ x) := by
     unfold bj;rw [adx];have : ¬ κ y = κ x := fun e => aN e.symm;simp only [adj.2 this]
    rw [this, acZ, ih h2, acZ];omega
theorem ew {L : List α} (h : bw κ L) {x y : α} : y ∈ aH κ L x ↔ y = x ∨ (y ∈ L ∧ κ y ≠ κ x) := by
 have hf := uL κ L x (κ y);constructor
 ·intro hy;rw [gR (h.ins x).ids hy] at hf;by_cases e : κ x = κ y
  ·rw [acW e] at hf;injection hf with hf;exact .inl hf
  ·rw [acO e] at hf;exact .inr ⟨(fR hf.symm).1, fun e' => e e'.symm⟩
 ·rintro (rfl | ⟨hy, aN⟩)
  ·rw [acW rfl] at hf;exact (fR hf).1
  ·rw [acO (fun e => aN e.symm), gR h.ids hy] at hf;exact (fR hf).1
theorem rM {L : List α} (h : L.Pairwise fun x y => κ x ≠ κ y) (p : α → Bool) (k : Int) : bj κ (L.filter p) k = (bj κ L k).filter p := by
 induction L with
 | nil => rfl
 | cons y r ih =>
  obtain ⟨h1, h2⟩ := ac_.1 h;have ih' := ih h2;by_cases e : κ y = k
  ·have hy : bj κ (y :: r) k = some y := by unfold bj; simp [adx, e]
   rw [hy];by_cases hp : p y = true
   ·rw [adW hp];unfold bj;simp [adx, e, hp, aef]
   ·rw [adU hp, ih'];have : bj κ r k = none := kA.2 fun z hz => by have := h1 z hz; omega
    rw [this];simp [hp, aef]
  ·have hy : bj κ (y :: r) k = bj κ r k := by unfold bj; simp [adx, e]
   rw [hy, ← ih'];by_cases hp : p y = true
   ·rw [adW hp];unfold bj;simp [adx, e]
   ·rw [adU hp]
theorem rN {L : List α} (h : bw κ L) {x : α} (hx : x ∈ L) : (L.filter fun y => decide (κ y ≠ κ x)).length + 1 = L.length := by
 induction L with
 | nil => simp at hx
 | cons y r ih =>
  obtain ⟨h1, h2⟩ := ac_.1 h;rcases ac9.1 hx with rfl | hx
  ·rw [adU (by simp), ae2.2 (fun z hz => by have := h1 z hz; simp; omega)];rfl
  ·have := h1 x hx;rw [adW (by simp; omega), acZ, acZ, ih h2 hx]
theorem yj {L : List α} (h : bw κ L) {x y : α} (hx : x ∈ L) (hy : y ∈ L) (e : κ x = κ y) : x = y := by
 have h1 := gR h.ids hx;rw [e, gR h.ids hy] at h1;injection h1 with h1;exact h1.symm
theorem bw.sub {L M : List α} (h : bw κ L) (hs : M.Sublist L) : bw κ M := List.Pairwise.sublist hs h
theorem fP {RB : β → Int} (f : α → β) (hf : ∀ x, RB (f x) = κ x) (L : List α) (x : α) : (aH κ L x).map f = aH RB (L.map f) (f x) := by
 induction L with
 | nil => rfl
 | cons y r ih =>
  unfold aH;rw [ad7];dsimp only;rw [hf, hf];by_cases h1 : κ x < κ y
  ·rw [acW h1, acW h1];rfl
  ·rw [acO h1, acO h1];by_cases h2 : κ x = κ y
   ·rw [acW h2, acW h2];rfl
   ·rw [acO h2, acO h2, ad7, ih]
theorem jm {RB : β → Int} (f : α → β) (hf : ∀ x, RB (f x) = κ x) (L : List α) (k : Int) : bj RB (L.map f) k = (bj κ L k).map f := by
 unfold bj;rw [List.find?_map]
 congr 1
 congr 1
 funext x
 simp [hf]
theorem ef {RB : β → Int} (f : α → β) (hf : ∀ x, RB (f x) = κ x) {L : List α} : bw RB (L.map f) ↔ bw κ L := by
 unfold bw;rw [List.pairwise_map];simp only [hf]
theorem Fp : ∀ {L M : List α}, bw κ L → bw κ M → (∀ x, x ∈ L ↔ x ∈ M) → L = M
 | [], [], _, _, _ => rfl
 | [], y :: s, _, _, h => by have := (h y).2 (by simp); simp at this
 | x :: r, [], _, _, h => by have := (h x).1 (by simp); simp at this
 | x :: r, y :: s, hL, hM, h => by
  obtain ⟨h1, h2⟩ := ac_.1 hL;obtain ⟨h3, h4⟩ := ac_.1 hM;have e : x = y := by
   rcases ac9.1 ((h x).1 (by simp)) with e | e
   ·exact e
   ·rcases ac9.1 ((h y).2 (by simp)) with e' | e'
    ·exact e'.symm
    ·have := h1 y e';have := h3 x e;omega
  subst e
  congr 1
  refine Fp h2 h4 fun z => ?_;constructor
  ·intro hz;rcases ac9.1 ((h z).1 (ade _ hz)) with e | e
   ·subst e; have := h1 z hz; omega
   ·exact e
  ·intro hz;rcases ac9.1 ((h z).2 (ade _ hz)) with e | e
   ·subst e; have := h3 z hz; omega
   ·exact e
end
abbrev Pl := Int × List Sp
def kP (y : Pl) : Int := y.1
noncomputable def cW (S : List Pl) (x : Sp) : List Pl × Cn := match bj kP S x.t with
 | some y => (aH kP S (x.t, (bF y.2 cQ x).1), (bF y.2 cQ x).2)
 | none => if 32 ≤ S.length then (S, ⟨0, 0, 0, 0, 1⟩) else (aH kP S (x.t, (bF [] cQ x).1), (bF [] cQ x).2)
noncomputable def puts : List Pl → List Sp → List Pl × Cn
 | S, [] => (S, cQ)
 | S, x :: r => ((puts (cW S x).1 r).1, (cW S x).2.plus (puts (cW S x).1 r).2)
theorem kC : ∀ (l : List Sp) (S : List Pl) (x : Sp), puts S (l ++ [x]) = ((cW (puts S l).1 x).1, (puts S l).2.plus (cW (puts S l).1 x).2)
 | [], S, x => by
  show ((puts (cW S x).1 []).1, (cW S x).2.plus (puts (cW S x).1 []).2) = _
  simp only [puts, Cn.Yg];rw [Cn.Jm]
 | y :: r, S, x => by
  show ((puts (cW S y).1 (r ++ [x])).1, (cW S y).2.plus (puts (cW S y).1 (r ++ [x])).2) = _
  rw [kC r];simp only [puts];rw [Cn.EY]
theorem MW (a b : Cn) : (a.plus b).sum = a.sum + b.sum := by unfold Cn.plus Cn.sum; dsimp only; omega
theorem pB (S : List Pl) (x : Sp) : (cW S x).2.sum = 1 := by
 unfold cW;cases bj kP S x.t with
 | none =>
  dsimp only
  split
  ·rfl
  ·dsimp only;rw [ug];rfl
 | some y =>
  dsimp only;rw [ug];rfl
theorem tY : ∀ (l : List Sp) (S : List Pl), (puts S l).2.sum = l.length
 | [], S => rfl
 | x :: r, S => by
  show ((cW S x).2.plus (puts (cW S x).1 r).2).sum = _
  rw [MW, pB, tY r, acZ];omega
structure fB (S : List Pl) : Prop where
 rises : bw kP S
 ok : ∀ y ∈ S, dT y.1 y.2 ∧ y.2 ≠ [] ∧ 1 ≤ y.1 ∧ y.1 ≤ 1099511627776
 len : S.length ≤ 32
theorem fB.nil : fB [] := ⟨aek, by simp, by simp⟩
theorem oV (x : Sp) : bF [] cQ x = ([x], ⟨1, 0, 0, 0, 0⟩) := by
 have h1 : bI [] x.i = none := rfl;have h2 : ring [] x.i x.p = false := Ml rfl;unfold bF;rw [h1];dsimp only;rw [acO (by simp), h2];rfl
theorem PZ {L : List Sp} (h : L ≠ []) (c : Cn) (x : Sp) : (bF L c x).1 ≠ [] := by
 rcases xW (L := L) (c := c) (x := x) with e | ⟨_, _, _, e⟩
 ·rw [e]; exact h
 ·rw [e]; simp
theorem sK {S : List Pl} (h : fB S) {x : Sp} (hx : x.ok = true) : fB (cW S x).1 := by
 have pX := (Sp.aO x).1 hx;unfold cW;cases hf : bj kP S x.t with
 | none =>
  dsimp only
  split
  ·exact h
  ·rename_i hl;rw [oV];have hlen := mL h.rises ((x.t, [x]) : Pl);rw [show kP ((x.t, [x]) : Pl) = x.t from rfl, hf] at hlen;refine ⟨h.rises.ins _, fun y hy => ?_, by rw [hlen]; simp; omega⟩;rcases fq hy with rfl | hy
   ·have := zO (B_ x.t) (c := cQ) hx pX.ne rfl;rw [oV] at this;exact ⟨this, by simp, pX.t1, pX.t2⟩
   ·exact h.ok y hy
 | some y =>
  dsimp only;obtain ⟨hy, hk⟩ := fR hf;have nU := h.ok y hy;have hlen := mL h.rises ((x.t, (bF y.2 cQ x).1) : Pl);rw [show kP ((x.t, (bF y.2 cQ x).1) : Pl) = x.t from rfl, hf] at hlen;refine ⟨h.rises.ins _, fun z hz => ?_, by rw [hlen]; simpa using h.len⟩;rcases fq hz with rfl | hz
  ·have Au : y.1 = x.t := hk;refine ⟨?_, PZ nU.2.1 _ _, by show 1 ≤ x.t; exact pX.t1, pX.t2⟩;have := nU.1;rw [Au] at this;exact zO this hx pX.ne rfl
  ·exact h.ok z hz
noncomputable def iH (S : List Pl) (l : List Sp) : List Pl := if l.all Sp.ok = true then (puts S l).1 else S
noncomputable def nF (S : List Pl) (l : List Sp) : Cn := if l.all Sp.ok = true then (puts S l).2 else cQ
def Eg (l : List Sp) : Int := if l.all Sp.ok = true then 0 else 30
def sS (S : List Pl) (f : Int) : List Pl := S.filter fun y => decide (f ≤ dQ y.2)
theorem F4 {S : List Pl} (h : fB S) (f : Int) : fB (sS S f) := ⟨h.rises.sub aeK, fun y hy => h.ok y (adT.1 hy).1, acN (adF _ _) h.len⟩
def g_ (S : List Pl) (k : Int) : List Br := match bj kP S k with
 | some y => jK (aQ y.2)
 | none => []
def aX (y : Pl) : List UInt8 := digits (cN (aQ y.2)).length ++ cN (aQ y.2)
def br (S : List Pl) : List UInt8 := digits S.length ++ S.flatMap aX
open Go.RowKit
structure Tr where
 t : Int
 g : Nat
 b : Nat
 L : List Sp
def kR (x : Tr) : Int := x.t
def Tr.pl (x : Tr) : Pl := (x.t, x.L)
def Tr.v (x : Tr) : Value := .pointer (some ⟨x.g, 0, none⟩)
theorem nZ (x : Tr) : kP x.pl = kR x := rfl
def n_ : Value → Option (DataW Value × List MemPlace)
 | .pointer a => some (.held (.pointer a), [])
 | _ => none
theorem yk {v u : Value} {ps : List MemPlace} (h : n_ v = some (.held u, ps)) : v = u := by
 cases v <;> simp [n_] at h
 exact h.1
theorem yl {v : Value} {y : DataW Value × List MemPlace} (h : n_ v = some y) : (∃ a, v = .pointer a) ∧ y.1 = .held v := by
 cases v <;> simp [n_] at h
 subst h;exact ⟨⟨_, rfl⟩, rfl⟩
theorem Uv (w : World) : (zeroValue 195).run prog w = .ok (.pointer none) w := by kernel_rfl
def zX : Option Tr → Value
 | some x => x.v
 | none => .pointer none
structure MX (D : DataW Value) (R : List Tr) : Prop where
 size : Maps.size D = R.length
 keys : ∀ k, Maps.has D (.int .i64 k) = (bj kR R k).isSome
 vals : ∀ k x, bj kR R k = some x → ∀ z, D.atKey (.int .i64 k) z = .held x.v
 rises : bw kR R
structure ez (w : World) (b : Nat) (R : List Tr) (D : DataW Value) : Prop where
 map : w.ownsMap prog 3 n_ b R.length D
 rd : MX D R
theorem ez.lt {w : World} {b : Nat} {R : List Tr} {D : DataW Value} (h : ez w b R D) : b < w.heap.size := h.map.lt
theorem ez.aU {w w' : World} {S : Nat → Prop} {b : Nat} {R : List Tr} {D : DataW Value} (h : ez w b R D) (hc : ak w w' S) (hn : ¬ S b) : ez w' b R D := by
 have bd := h.map.lt;obtain ⟨es, clock, h1, rest⟩ := h.map;exact ⟨⟨es, clock, (hc.block b bd hn).trans h1, rest⟩, h.rd⟩
theorem ez.below {w w' : World} {b : Nat} {R : List Tr} {D : DataW Value} (h : ez w b R D) (hb : Below w.heap.size w w') : ez w' b R D := h.aU (ak.of_below hb fun _ => False) fun e => e
theorem ez.drewN {w : World} {b : Nat} {R : List Tr} {D : DataW Value} (h : ez w b R D) (q : Nat) : ez (w.drewN q) b R D := ⟨h.map, h.rd⟩
theorem ez.grown {w w' : World} {b : Nat} {R : List Tr} {D : DataW Value} {row : Option Nat} (h : ez w b R D) (hg : w.grownBy w' row) (aN : row ≠ some b) : ez w' b R D :=
 ⟨h.map.kept hg fun e => aN e.symm, h.rd⟩
theorem ez.look {w : World} {b : Nat} {R : List Tr} {D : DataW Value} (h : ez w b R D) {k : Int} (hk : (Lit.int .i64 k).wf = true) (q : Nat) :
  (Instr.lookup 168 (.map (some b)) (.int .i64 k) false).run prog (w.drewN q) = .ok (zX (bj kR R k)) (w.drewN q) := by
 have oB : (w.drewN q).ownsMap prog 3 n_ b R.length D := h.map;obtain ⟨v2, VM, iD, rG⟩ := oB.lookup fe aeJ (Uv (w.drewN q)) (zd := .held (.pointer none)) (zp := []) rfl (qG hk);cases hf : bj kR R k with
 | none =>
  have hh : Maps.has D (.int .i64 k) = false := by rw [h.rd.keys, hf]; rfl
  rw [aeT hh] at rG;obtain rfl := yk rG;exact iD
 | some x =>
  rw [h.rd.vals k x hf] at rG;obtain rfl := yk rG;exact iD
theorem ez.store {w : World} {b : Nat} {R : List Tr} {D : DataW Value} (h : ez w b R D) {x : Tr} (hk : (Lit.int .i64 x.t).wf = true) (hL : R.length < maxLen) :
  ∃ w' D', (Instr.mapUpdate 168 (.map (some b)) (.int .i64 x.t) (.pointer (some ⟨x.g, 0, none⟩))).run prog w = .ok () w' ∧ w.grownBy w' (some b) ∧ ez w' b (aH kR R x) D' := by
 obtain ⟨w', dB, T4, hg⟩ := h.map.update fe aeJ hL (qG hk) (d := .held x.v) (ps := []) (val := x.v) rfl;have ua := h.map.tidy fe;have kt : Maps.size (D.put (.int .i64 x.t) (.held x.v)) = (aH kR R x).length := by
  rw [Maps.size_put ua, h.rd.keys, mL h.rd.rises, h.rd.size]
  show (if (bj kR R x.t).isSome = true then R.length else R.length + 1) = R.length + if (bj kR R x.t).isSome = true then 0 else 1
  split <;> rfl
 refine ⟨w', _, dB, hg, ⟨by rw [← kt]; exact gG T4, ⟨kt, fun k => ?_, fun k y hy => ?_, h.rd.rises.ins x⟩⟩⟩
 ·rw [uL];by_cases e : x.t = k
  ·subst e;rw [acW (show kR x = x.t from rfl), Maps.has_put_same h.map.isMap (lx _)];rfl
  ·rw [acO (show ¬ kR x = k from e), ae_ (fun h => e (by injection h with _ h; exact h.symm)), h.rd.keys]
 ·rw [uL] at hy;by_cases e : x.t = k
  ·subst e;rw [acW (show kR x = x.t from rfl)] at hy;simp at hy;subst hy;intro z;rw [Maps.atKey_put_same h.map.isMap (lx _)]
  ·rw [acO (show ¬ kR x = k from e)] at hy;intro z;rw [Maps.atKey_put_other (fun h => e (by injection h with _ h; exact h.symm))];exact h.rd.vals k y hy z
theorem Uw (w : World) : ez (w.alloc (.map #[] 0)) w.heap.size [] (.map []) :=
 ⟨World.ownsMap_made w _ _ _, ⟨rfl, fun k => rfl, fun k x h => by simp [bj] at h, aek⟩⟩
def Dv (x : Tr) : Int × Nat := (x.t, x.g)
def kT (x : Int × Nat) : Int := x.1
theorem uM (x : Tr) : kT (Dv x) = kR x := rfl
theorem ym {α : Type} {κ : α → Int} : ∀ {L : List α}, bw κ L → ∀ {x : α}, x ∈ L → aH κ L x = L
 | [], _, x, hx => by simp at hx
 | y :: r, h, x, hx => by
  obtain ⟨h1, h2⟩ := ac_.1 h;unfold aH;rcases ac9.1 hx with rfl | hx
  ·rw [acO (by omega), acW rfl]
  ·have := h1 x hx;rw [acO (by omega), acO (by omega), ym h2 hx]
theorem MX.same {D : DataW Value} {R R' : List Tr} (h : MX D R) (he : R.map Dv = R'.map Dv) : MX D R' := by
 have hk : ∀ (R : List Tr) k, bj kT (R.map Dv) k = (bj kR R k).map Dv := fun R k => jm Dv uM R k;have hR := h.rises;rw [← ef Dv uM, he, ef Dv uM] at hR;refine ⟨by rw [h.size]; simpa using aec List.length he, fun k => ?_, fun k x hx => ?_, hR⟩
 ·rw [h.keys];have h1 := hk R k;rw [he, hk R' k] at h1;have h2 := aec Option.isSome h1
  simpa using h2.symm
 ·have h1 := hk R k;rw [he, hk R' k, hx] at h1;cases hf : bj kR R k with
  | none => rw [hf] at h1; simp at h1
  | some y =>
   rw [hf] at h1;simp at h1;have h2 := h.vals k y hf;have h3 : x.g = y.g := aec Prod.snd h1;unfold Tr.v at h2 ⊢;rw [h3];exact h2
theorem ez.same {w : World} {b : Nat} {R R' : List Tr} {D : DataW Value} (h : ez w b R D) (he : R.map Dv = R'.map Dv) : ez w b R' D :=
 ⟨by have := aec List.length he; simp at this; rw [← this]; exact h.map, h.rd.same he⟩
theorem Ux {R : List Tr} (hr : bw kR R) {x : Tr} (hx : x ∈ R) (L' : List Sp) : R.map Dv = (aH kR R { x with L := L' }).map Dv := by
 rw [fP Dv uM];exact (ym ((ef Dv uM).2 hr) (ads.2 ⟨x, hx, rfl⟩)).symm
def mT (gs bm : Nat) (R : List Tr) (k : Nat) : Prop := k = gs ∨ k = bm ∨ ∃ x ∈ R, k = x.g ∨ k = x.b
def Tr.Apart (x y : Tr) : Prop := x.g ≠ y.g ∧ x.b ≠ y.b ∧ x.g ≠ y.b ∧ x.b ≠ y.g
structure bR (w : World) (gs bm : Nat) (R : List Tr) : Prop where
 c0 : w.cell? ⟨gs, 0, none⟩ = some (.map (some bm))
 ne : gs ≠ bm
 map : ∃ D, ez w bm R D
 fo : ∀ x ∈ R, jr w x.g x.b x.t x.L
 off : ∀ x ∈ R, x.g ≠ gs ∧ x.g ≠ bm ∧ x.b ≠ gs ∧ x.b ≠ bm
 ap : ∀ x ∈ R, ∀ y ∈ R, x.t ≠ y.t → x.Apart y
 ok : fB (R.map Tr.pl)
section
variable {w w' : World} {gs bm : Nat} {R R' : List Tr}
theorem bR.rises (h : bR w gs bm R) : bw kR R := (ef Tr.pl nZ).1 h.ok.rises
theorem bR.len (h : bR w gs bm R) : R.length ≤ 32 := by have := h.ok.len; simpa using this
theorem jr.lt {g b : Nat} {tr : Int} {L : List Sp} (h : jr w g b tr L) : g < w.heap.size ∧ b < w.heap.size := ⟨lt_of_cell h.c0, by obtain ⟨D, hD⟩ := h.FD; exact hD.map.lt⟩
theorem bR.lt (h : bR w gs bm R) : ∀ k, mT gs bm R k → k < w.heap.size := by
 rintro k (rfl | rfl | ⟨x, hx, rfl | rfl⟩)
 ·exact lt_of_cell h.c0
 ·obtain ⟨D, hD⟩ := h.map; exact hD.lt
 ·exact (h.fo x hx).lt.1
 ·exact (h.fo x hx).lt.2
theorem bR.aU {S : Nat → Prop} (h : bR w gs bm R) (hc : ak w w' S) (hS : ∀ k, mT gs bm R k → ¬ S k) : bR w' gs bm R :=
 ⟨hc.cell h.c0 (hS _ (.inl rfl)), h.ne, by obtain ⟨D, hD⟩ := h.map; exact ⟨D, hD.aU hc (hS _ (.inr (.inl rfl)))⟩, fun x hx => (h.fo x hx).aU hc (hS _ (.inr (.inr ⟨x, hx, .inl rfl⟩))) (hS _ (.inr (.inr ⟨x, hx, .inr rfl⟩))), h.off, h.ap, h.ok⟩
theorem bR.below (h : bR w gs bm R) (hb : Below w.heap.size w w') : bR w' gs bm R := h.aU (ak.of_below hb fun _ => False) fun _ _ e => e
theorem bR.drewN (h : bR w gs bm R) (q : Nat) : bR (w.drewN q) gs bm R := h.below (ag w q)
theorem P0 {k : Nat} : mT gs bm [] k ↔ k = gs ∨ k = bm := by simp [mT]
theorem bR.yo (h : bR w gs bm R) {x : Tr} {L' : List Sp} (hx : x ∈ R) (hf : jr w' x.g x.b x.t L') (hc : ak w w' fun k => k = x.b) (ho : fB (aH kP (R.map Tr.pl) (x.t, L'))) : bR w' gs bm (aH kR R { x with L := L' }) := by
 have hr := h.rises;have hm : ∃ D, ez w' bm (aH kR R { x with L := L' }) D := by
  obtain ⟨D, hD⟩ := h.map;exact ⟨D, (hD.aU hc (fun e => (h.off x hx).2.2.2 e.symm)).same (Ux hr hx L')⟩
 have kK : ∀ y, y ∈ aH kR R { x with L := L' } → y = { x with L := L' } ∨ (y ∈ R ∧ y.t ≠ x.t) := fun y hy => (ew hr).1 hy;refine ⟨hc.cell h.c0 (fun e => (h.off x hx).2.2.1 e.symm), h.ne, hm, fun y hy => ?_, fun y hy => ?_, fun y hy z hz aN => ?_, ?_⟩
 ·rcases kK y hy with rfl | ⟨hy, aN⟩
  ·exact hf
  ·have := h.ap y hy x hx aN;exact (h.fo y hy).aU hc this.2.2.1 this.2.1
 ·rcases kK y hy with rfl | ⟨hy, aN⟩
  ·exact h.off x hx
  ·exact h.off y hy
 ·rcases kK y hy with rfl | ⟨hy, Z7⟩ <;> rcases kK z hz with rfl | ⟨hz, Mq⟩
  ·exact absurd rfl aN
  ·exact h.ap x hx z hz fun e => Mq e.symm
  ·exact h.ap y hy x hx Z7
  ·exact h.ap y hy z hz aN
 ·rw [fP Tr.pl nZ];exact ho
theorem bR.abu (h : bR w gs bm R) {t : Int} {g b g0 : Nat} {L L0 : List Sp} {D : DataW Value} (hn : bj kR R t = none) (hf : jr w' g b t L) (hg : w.heap.size ≤ g) (hb : w.heap.size ≤ b) (hc : ak w w' fun k => k = bm) (hm : ez w' bm (aH kR R ⟨t, g, b, L0⟩) D) (ho : fB (aH kP (R.map Tr.pl) (t, L))) : bR w' gs bm (aH kR R ⟨t, g, b, L⟩) := by
 have hr := h.rises;have bd := h.lt;have hlR : ∀ y ∈ R, y.g < w.heap.size ∧ y.b < w.heap.size := fun y hy => (h.fo y hy).lt;have hgs : gs < w.heap.size := bd gs (.inl rfl);have hbm : bm < w.heap.size := bd bm (.inr (.inl rfl));have kK : ∀ y, y ∈ aH kR R ⟨t, g, b, L⟩ → y = ⟨t, g, b, L⟩ ∨ (y ∈ R ∧ y.t ≠ t) := fun y hy => (ew hr).1 hy;refine ⟨hc.cell h.c0 h.ne, h.ne, ⟨D, hm.same ?_⟩, fun y hy => ?_, fun y hy => ?_, fun y hy z hz aN => ?_, ?_⟩
 ·rw [fP Dv uM, fP Dv uM];rfl
 ·rcases kK y hy with rfl | ⟨hy, aN⟩
  ·exact hf
  ·exact (h.fo y hy).aU hc (h.off y hy).2.1 (h.off y hy).2.2.2
 ·rcases kK y hy with rfl | ⟨hy, aN⟩
  ·exact ⟨by show g ≠ gs; omega, by show g ≠ bm; omega, by show b ≠ gs; omega, by show b ≠ bm; omega⟩
  ·exact h.off y hy
 ·rcases kK y hy with rfl | ⟨hy, Z7⟩ <;> rcases kK z hz with rfl | ⟨hz, Mq⟩
  ·exact absurd rfl aN
  ·have := hlR z hz;exact ⟨by show g ≠ z.g; omega, by show b ≠ z.b; omega, by show g ≠ z.b; omega, by show b ≠ z.g; omega⟩
  ·have := hlR y hy;exact ⟨by show y.g ≠ g; omega, by show y.b ≠ b; omega, by show y.g ≠ b; omega, by show y.b ≠ g; omega⟩
  ·exact h.ap y hy z hz aN
 ·rw [fP Tr.pl nZ];exact ho
theorem Gw {x : Tr} (hr : bw kR R) {k : Nat} (hk : mT gs bm (aH kR R x) k) : mT gs bm R k ∨ k = x.g ∨ k = x.b := by
 rcases hk with h | h | ⟨y, hy, h⟩
 ·exact .inl (.inl h)
 ·exact .inl (.inr (.inl h))
 ·rcases (ew hr).1 hy with rfl | ⟨hy, _⟩
  ·exact .inr h
  ·exact .inl (.inr (.inr ⟨y, hy, h⟩))
def vm (bm : Nat) (R : List Tr) (k : Nat) : Prop := k = bm ∨ ∃ x ∈ R, k = x.b
theorem vm.sub {k : Nat} (h : vm bm R k) : mT gs bm R k := by
 rcases h with h | ⟨x, hx, h⟩
 ·exact .inr (.inl h)
 ·exact .inr (.inr ⟨x, hx, .inr h⟩)
theorem ez.dD {b g i : Nat} {D : DataW Value} {u : Value} (h : ez w b R D) (hc : w.cell? ⟨g, i, none⟩ = some u) : g ≠ b := by
 rintro rfl;obtain ⟨es, clock, hb, _⟩ := h.map;unfold World.cell? at hc;simp only [hb] at hc;cases hc
theorem bR.dD (h : bR w gs bm R) {g i : Nat} {u : Value} (hc : w.cell? ⟨g, i, none⟩ = some u) : ¬ vm bm R g := by
 rintro (rfl | ⟨x, hx, rfl⟩)
 ·obtain ⟨D, hD⟩ := h.map;exact hD.dD hc rfl
 ·obtain ⟨D, hD⟩ := (h.fo x hx).FD;exact hD.dD hc rfl
theorem bR.keep (h : bR w gs bm R) (hc : ak w w' (vm bm R)) {g i : Nat} {u : Value} (hu : w.cell? ⟨g, i, none⟩ = some u) : w'.cell? ⟨g, i, none⟩ = some u := hc.cell hu (h.dD hu)
structure gC (w w' : World) (gs bm : Nat) (R R' : List Tr) (S' : List Pl) : Prop where
 is : bR w' gs bm R'
 pl : R'.map Tr.pl = S'
 aU : ak w w' (vm bm R)
 new : ∀ k, mT gs bm R' k → mT gs bm R k ∨ w.heap.size ≤ k
theorem vm.new {k : Nat} (hn : ∀ k, mT gs bm R' k → mT gs bm R k ∨ w.heap.size ≤ k) (h : bR w gs bm R) (h' : bR w' gs bm R') (hc : ak w w' (vm bm R)) (hk : vm bm R' k) : vm bm R k ∨ w.heap.size ≤ k := by
 rcases hn k (vm.sub hk) with h1 | h1
 ·refine .inl ?_;rcases h1 with rfl | rfl | ⟨x, hx, rfl | rfl⟩
  ·exact absurd hk (h'.dD (h.keep hc h.c0))
  ·exact .inl rfl
  ·exact absurd hk (h'.dD (h.keep hc (h.fo x hx).c0))
  ·exact .inr ⟨x, hx, rfl⟩
 ·exact .inr h1
theorem gC.trans {w w1 w2 : World} {R1 R2 : List Tr} {S1 S2 : List Pl} (h0 : bR w gs bm R) (h : gC w w1 gs bm R R1 S1) (h' : gC w1 w2 gs bm R1 R2 S2) : gC w w2 gs bm R R2 S2 :=
 ⟨h'.is, h'.pl, h.aU.trans h'.aU fun k hk => vm.new h.new h0 h.is h.aU hk, fun k hk => by
  rcases h'.new k hk with h1 | h1
  ·exact h.new k h1
  ·exact .inr (acN h.aU.size h1)⟩
theorem gC.below {w2 : World} {S' : List Pl} (h : gC w w' gs bm R R' S') (hb : Below w'.heap.size w' w2) : gC w w2 gs bm R R' S' :=
 ⟨h.is.below hb, h.pl, h.aU.cC hb, h.new⟩
theorem gC.of_below (h : bR w gs bm R) (hb : Below w.heap.size w w') : gC w w' gs bm R R (R.map Tr.pl) := ⟨h.below hb, rfl, ak.of_below hb _, fun k hk => .inl hk⟩
end
open Go.RowKit
theorem uN (w : World) : (Instr.makeMap 168 none).run prog w = .ok (.map (some w.heap.size)) (w.alloc (.map #[] 0)) := by
 kernel_rfl
theorem zY (b : Nat) (w : World) : (binOp .neq 168 (.map (some b)) (.map none)).run prog w = .ok (.bool true) w := by
 kernel_rfl
def YG (w : World) (S : List Pl) (e : Ending) (w' : World) : Prop := ∃ gs bm R, e = .returned (.pointer (some ⟨gs, 0, none⟩)) ∧ bR w' gs bm R ∧ R.map Tr.pl = S ∧ (∀ k, mT gs bm R k → w.heap.size ≤ k) ∧ Below w.heap.size w w'
theorem Ba (w : World) : Calls prog 74 #[] w (YG w []) := by
 have U1 := fun q => uN (w.drewN q);have Yt := uN w;go_enter func74, ntmps74
 go_wp2;go_ret;have hs : (w.alloc (.map #[] 0)).heap.size = w.heap.size + 1 := by simp
 have b1 := (acG w.heap.size w).alloc (acE _) (.map #[] 0);refine ⟨w.heap.size + 1, w.heap.size, [], rfl, ⟨?_, by omega, ⟨_, (Uw w).grown (ada _ _ none) (by simp)⟩, by simp, by simp, by simp, fB.nil⟩, rfl, fun k hk => ?_, b1.alloc b1.size _⟩
 ·rw [← hs];exact acC _ _ 0 _ 170 (0, 0) (acQ (w.alloc (.map #[] 0)) _)
 ·rcases P0.1 hk with rfl | rfl <;> omega
theorem kL {w : World} {gs bm : Nat} (c0 : w.cell? ⟨gs, 0, none⟩ = some (.map (some bm))) : Calls prog 127 #[.pointer (some ⟨gs, 0, none⟩)] w fun e w' => e = .returned (.bool true) ∧ ∃ q, w' = w.drewN q := by
 have T_ := zY bm;go_enter func127, ntmps127
 go_wp2;go_ret;exact ⟨rfl, 0, rfl⟩
open Go.RowKit
theorem P1 (w : World) (a b : Cn) (ha : a.sum ≤ 1100000) (hb : b.sum ≤ 1100000) : Calls prog 197 #[iJ a, iJ b] w fun e w' => e = .returned (iJ (a.plus b)) ∧ Below w.heap.size w w' := by
 obtain ⟨a0, a1, a2, a3, a4⟩ := a;obtain ⟨b0, b1, b2, b3, b4⟩ := b;unfold Cn.sum at ha hb;unfold iJ Cn.plus;dsimp only at *;have h0 : (a0 : Int) ≤ 1100000 := by omega
 have h1 : (a1 : Int) ≤ 1100000 := by omega
 have h2 : (a2 : Int) ≤ 1100000 := by omega
 have h3 : (a3 : Int) ≤ 1100000 := by omega
 have h4 : (a4 : Int) ≤ 1100000 := by omega
 have k0 : (b0 : Int) ≤ 1100000 := by omega
 have k1 : (b1 : Int) ≤ 1100000 := by omega
 have k2 : (b2 : Int) ≤ 1100000 := by omega
 have k3 : (b3 : Int) ≤ 1100000 := by omega
 have k4 : (b4 : Int) ≤ 1100000 := by omega
 clear ha hb;go_enter func197, ntmps197
 go_wp2;refine ac0 (v := .agg #[.int .i64 ((a0 : Int) + b0), .int .i64 ((a1 : Int) + b1), .int .i64 ((a2 : Int) + b2), .int .i64 ((a3 : Int) + b3), .int .i64 ((a4 : Int) + b4)]) (by
  simp [results, results197, go_sem]) rfl ⟨by simp only [aeS], ?_⟩
 have h1 := (acG w.heap.size w).alloc (acE _) (.cells #[.int .i64 a0, .int .i64 a1, .int .i64 a2, .int .i64 a3, .int .i64 a4] 64);have h2 := h1.alloc h1.size (.cells #[.int .i64 b0, .int .i64 b1, .int .i64 b2, .int .i64 b3, .int .i64 b4] 64);exact h2.alloc h2.size _
end Go.Proofs.YtionbmlicmibgaaGreatDoor
