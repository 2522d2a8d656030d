import Derived.Sort.Statements
import Derived.Test.YtionbmlicmibgaaGreatDoorS2
set_option linter.unusedVariables false
set_option linter.unusedSimpArgs false
namespace Go.Proofs.YtionbmlicmibgaaGreatDoor
open Go.Proofs.Tryz
set_option maxRecDepth 200000
set_option maxHeartbeats 1100000
open Go.Sort
structure Px {α : Type} (c : α → α → Int) : Prop where
 anti : ∀ x y, c y x = -c x y
 like : ∀ x y, c x y = 0 → ∀ z, c x z = c y z
 on : ∀ x y z, c x y < 0 → c y z < 0 → c x z < 0
def qI {α : Type} (c d : α → α → Int) (x y : α) : Int := if c x y ≠ 0 then c x y else d x y
theorem Px.Yb {α : Type} {c : α → α → Int} (h : Px c) {y z : α} (e : c y z = 0) (x : α) : c x y = c x z := by
 have h1 := h.like y z e x;have h2 := h.anti x y;have h3 := h.anti x z;omega
theorem Px.lex {α : Type} {c d : α → α → Int} (hc : Px c) (hd : Px d) : Px (qI c d) where
 anti x y := by
  have h1 := hc.anti x y;have h2 := hd.anti x y;unfold qI;by_cases h : c x y = 0
  ·rw [acO (by omega), acO (by omega)];exact h2
  ·rw [acW (by omega), acW (by omega)];exact h1
 like x y h z := by
  unfold qI at *;by_cases h0 : c x y = 0
  ·rw [acO (by omega)] at h;rw [hc.like x y h0 z, hd.like x y h z]
  ·rw [acW h0] at h;exact absurd h h0
 on x y z h1 h2 := by
  unfold qI at *;by_cases ha : c x y = 0
  ·rw [acO (by omega)] at h1;have e1 := hc.like x y ha z;by_cases hb : c y z = 0
   ·rw [acO (by omega)] at h2;rw [acO (by omega)];exact hd.on x y z h1 h2
   ·rw [acW hb] at h2;rw [acW (by omega)];omega
  ·rw [acW ha] at h1;by_cases hb : c y z = 0
   ·have e1 := hc.Yb hb x;rw [acW (by omega)];omega
   ·rw [acW hb] at h2;have := hc.on x y z h1 h2;rw [acW (by omega)];exact this
theorem uh (f : Sp → Int) : Px fun x y => Lib.compareInt (f x) (f y) where
 anti x y := by unfold Lib.compareInt; (repeat' split) <;> omega
 like x y h z := by
  have : f x = f y := by
   unfold Lib.compareInt at h;revert h
   (repeat' split) <;> intro h <;> omega
  rw [this]
 on x y z h1 h2 := by
  unfold Lib.compareInt at *;revert h1 h2
  (repeat' split) <;> intro h1 h2 <;> omega
theorem jV : ∀ a b : List UInt8, Lib.compareBytes b a = -Lib.compareBytes a b
 | [], [] => rfl
 | [], _ :: _ => rfl
 | _ :: _, [] => rfl
 | x :: a, y :: b => by
  have ih := jV a b;simp only [Lib.compareBytes];by_cases h1 : x < y
  ·have h2 : ¬ y < x := fun h => UInt8.lt_irrefl _ (UInt8.lt_trans h h1);simp [h1, h2]
  ·by_cases h2 : y < x
   ·simp [h1, h2]
   ·simp [h1, h2, ih]
theorem iA : ∀ {a b : List UInt8}, Lib.compareBytes a b = 0 → a = b
 | [], [], _ => rfl
 | [], _ :: _, h => by simp [Lib.compareBytes] at h
 | _ :: _, [], h => by simp [Lib.compareBytes] at h
 | x :: a, y :: b, h => by
  simp only [Lib.compareBytes] at h;by_cases h1 : x < y
  ·simp [h1] at h
  ·by_cases h2 : y < x
   ·simp [h1, h2] at h
   ·simp only [h1, h2, if_false] at h;have sD : x = y := UInt8.le_antisymm (ae0.1 h2) (ae0.1 h1);rw [sD, iA h]
theorem lF : ∀ {a b c : List UInt8}, Lib.compareBytes a b < 0 → Lib.compareBytes b c < 0 → Lib.compareBytes a c < 0
 | [], [], _, h, _ => by simp [Lib.compareBytes] at h
 | [], _ :: _, [], _, h => by simp [Lib.compareBytes] at h
 | [], _ :: _, _ :: _, _, _ => by simp [Lib.compareBytes]
 | _ :: _, [], _, h, _ => by simp [Lib.compareBytes] at h
 | _ :: _, _ :: _, [], _, h => by simp [Lib.compareBytes] at h
 | x :: a, y :: b, z :: c, h1, h2 => by
  simp only [Lib.compareBytes] at h1 h2 ⊢;by_cases sD : x < y
  ·by_cases Ua : y < z
   ·simp [UInt8.lt_trans sD Ua]
   ·by_cases Rn : z < y
    ·simp [Ua, Rn] at h2
    ·have e : y = z := UInt8.le_antisymm (ae0.1 Rn) (ae0.1 Ua);subst e;simp [sD]
  ·by_cases Z1 : y < x
   ·simp [sD, Z1] at h1
   ·have e : x = y := UInt8.le_antisymm (ae0.1 Z1) (ae0.1 sD);subst e;simp only [sD, if_false] at h1;by_cases Ua : x < z
    ·simp [Ua]
    ·by_cases Rn : z < x
     ·simp [Ua, Rn] at h2
     ·simp only [Ua, Rn, if_false] at h2 ⊢;exact lF h1 h2
theorem Py : Px fun x y : Sp => Lib.compareBytes x.nl y.nl where
 anti x y := jV _ _
 like x y h z := by rw [iA h]
 on x y z h1 h2 := lF h1 h2
def sg : Sp → Sp → Int :=
 qI (fun x y => Lib.compareInt x.t y.t) (qI (fun x y => Lib.compareInt x.s y.s) (qI (fun x y => Lib.compareInt x.i y.i) (qI (fun x y => Lib.compareInt x.p y.p) (qI (fun x y => Lib.compareInt x.e y.e) fun x y => Lib.compareBytes x.nl y.nl))))
theorem ju : Px sg := (uh _).lex ((uh _).lex ((uh _).lex ((uh _).lex ((uh _).lex Py))))
theorem eU {a b : Int} (h : Lib.compareInt a b = 0) : a = b := by
 unfold Lib.compareInt at h;revert h
 (repeat' split) <;> intro h <;> omega
theorem pH {α : Type} {c d : α → α → Int} {x y : α} (h : qI c d x y = 0) : c x y = 0 ∧ d x y = 0 := by
 unfold qI at h
 split at h
 ·rename_i h0;exact absurd h h0
 ·rename_i h0;exact ⟨by omega, h⟩
theorem Pz {x y : Sp} (h : sg x y = 0) : x = y := by
 obtain ⟨a, h⟩ := pH h;obtain ⟨b, h⟩ := pH h;obtain ⟨c, h⟩ := pH h;obtain ⟨d, h⟩ := pH h;obtain ⟨e, h⟩ := pH h
 replace a := eU a
 replace b := eU b
 replace c := eU c
 replace d := eU d
 replace e := eU e
 replace h := iA h
 obtain ⟨t, i, p, s, en, n⟩ := x;obtain ⟨t', i', p', s', Du, n'⟩ := y;simp only [Sp.nl] at a b c d e h;have hn : n = n' := by
  obtain ⟨⟨u⟩⟩ := n;obtain ⟨⟨v⟩⟩ := n';simp only at h;rw [h]
 subst a b c d e hn;rfl
theorem Ja (x : Sp) : sg x x = 0 := by
 have := ju.anti x x;omega
def nk (x y : Sp) : Bool := decide (sg x y < 0)
theorem Gg : SWO nk where
 irrefl x := by unfold nk; rw [Ja]; rfl
 trans x y z h1 h2 := by
  unfold nk at *;rw [adr] at *;exact ju.on x y z h1 h2
 ntrans x y z h1 h2 := by
  unfold nk at *;rw [ae9] at *;intro h3;have a1 := ju.anti x y;by_cases h0 : sg x y = 0
  ·have := ju.like x y h0 z;omega
  ·have := ju.on y x z (by omega) h3;omega
theorem Gh (x y : Sp) (h1 : nk x y = false) (h2 : nk y x = false) : x = y := by
 unfold nk at *;rw [ae9] at *;have := ju.anti x y;exact Pz (by omega)
theorem xX {x y : Sp} (h : nk x y = true) : nk y x = false := by
 unfold nk at *;rw [adr] at h;rw [ae9];have := ju.anti x y;omega
def aQ (l : List Sp) : List Sp := l.mergeSort fun x y => !nk y x
theorem xY (a b c : Sp) (h1 : (!nk b a) = true) (h2 : (!nk c b) = true) : (!nk c a) = true := by
 rw [aew] at *;exact Gg.ntrans c b a h2 h1
theorem Jb (a b : Sp) : ((!nk b a) || !nk a b) = true := by
 cases h : nk b a
 ·rfl
 ·rw [xX h];rfl
theorem oC (l : List Sp) : (aQ l).Pairwise fun x y => (!nk y x) = true := List.pairwise_mergeSort xY Jb l
theorem cG (l : List Sp) : (aQ l).Perm l := List.mergeSort_perm l _
theorem uj {l m : List Sp} (hl : l.Pairwise fun x y => (!nk y x) = true) (hm : m.Pairwise fun x y => (!nk y x) = true) (hp : l.Perm m) : l = m := by
 refine List.Perm.eq_of_pairwise (le := fun x y => (!nk y x) = true) (fun a b _ _ h1 h2 => ?_) hl hm hp;rw [aew] at h1 h2;exact Gh a b h2 h1
theorem nX {l m : List Sp} (h : l.Perm m) : aQ l = aQ m :=
 uj (oC l) (oC m) (((cG l).trans h).trans (cG m).symm)
theorem mh (l : List Sp) : aQ (aQ l) = aQ l := nX (cG l)
theorem dp (l : List Sp) : (aQ l).length = l.length := (cG l).length_eq
def ml (s : Sp) : List Sp → List Sp
 | [] => [s]
 | x :: r => if nk s x then s :: x :: r else x :: ml s r
theorem qJ (s : Sp) : ∀ l : List Sp, (ml s l).Perm (s :: l)
 | [] => List.Perm.refl _
 | x :: r => by
  rw [ml]
  split
  ·exact List.Perm.refl _
  ·exact ((qJ s r).cons x).trans (List.Perm.swap s x r)
theorem xZ {s : Sp} : ∀ {l : List Sp}, l.Pairwise (fun x y => (!nk y x) = true) → (ml s l).Pairwise fun x y => (!nk y x) = true
 | [], _ => by simp [ml]
 | x :: r, h => by
  rw [ml];rw [ac_] at h
  split
  ·rename_i bd;rw [ac_, ac_];have hxs : (!nk x s) = true := by rw [aew]; exact xX bd
   refine ⟨fun y hy => ?_, h.1, h.2⟩;rcases ac9.1 hy with rfl | hy
   ·exact hxs
   ·exact xY s x y hxs (h.1 y hy)
  ·rename_i bd;rw [ac_];refine ⟨fun y hy => ?_, xZ h.2⟩;rcases ac9.1 ((qJ s r).mem_iff.1 hy) with rfl | hy
   ·simpa using bd
   ·exact h.1 y hy
def Mr (l : List Sp) : List Sp := l.foldl (fun a s => ml s a) []
theorem Ck (l : List Sp) : ∀ a : List Sp, a.Pairwise (fun x y => (!nk y x) = true) → (l.foldl (fun a s => ml s a) a).Pairwise fun x y => (!nk y x) = true := by
 induction l with
 | nil => intro a h; exact h
 | cons s r ih => intro a h; exact ih _ (xZ h)
theorem rI (l : List Sp) : ∀ a : List Sp, (l.foldl (fun a s => ml s a) a).Perm (l ++ a) := by
 induction l with
 | nil => intro a; exact List.Perm.refl _
 | cons s r ih =>
  intro a;refine (ih (ml s a)).trans ?_;rw [aeZ];exact ((qJ s a).append_left r).trans List.perm_middle
theorem Jc (l : List Sp) : Mr l = aQ l := by
 refine uj (Ck l [] aek) (oC l) ?_;have := rI l [];rw [adh] at this;exact this.trans (cG l).symm
open Go.RowKit
theorem filter_lt {α : Type} {p q : α → Bool} (h : ∀ x, p x = true → q x = true) : ∀ {l : List α} {u : α}, u ∈ l → q u = true → p u = false → (l.filter p).length < (l.filter q).length
 | x :: r, u, hu, hq, hp => by
  have hle : (r.filter p).length ≤ (r.filter q).length := by
   clear hu
   induction r with
   | nil => simp
   | cons y s ih =>
    rw [List.filter_cons, List.filter_cons];cases hpy : p y with
    | false => cases q y <;> simp <;> omega
    | true => rw [h y hpy]; simp; omega
  rw [List.filter_cons, List.filter_cons];rcases ac9.1 hu with rfl | hu
  ·rw [hp, hq];simp;omega
  ·have ih := filter_lt h hu hq hp;cases hpx : p x with
   | false => cases q x <;> simp <;> omega
   | true => rw [h x hpx]; simp; omega
def Ub (L : List Sp) (r : Int → Nat) (k : Nat) : Nat := (L.filter fun x => decide (r x.i < k)).length
theorem Gi {L : List Sp} {r : Int → Nat} {u : Sp} (hu : u ∈ L) {j k : Nat} (hj : j ≤ r u.i) (hk : r u.i < k) : Ub L r j < Ub L r k :=
 filter_lt (fun x hx => by rw [adr] at *; omega) hu (ac4 hk) (ac1 (by omega))
def iF (L : List Sp) (id : Int) : Nat → Int → Bool
 | 0, a => a == id
 | n + 1, a => match bI L a with
  | none => a == id
  | some u => if u.p = id then true else iF L id n u.p
theorem Jd {L : List Sp} {r : Int → Nat} (hr : rH L r) {id : Int} : ∀ (n : Nat) (a : Int), Ub L r (rk L r a) ≤ n → a ≠ id → iF L id n a = Ay L r id a := by
 intro n
 induction n with
 | zero =>
  intro a hn ha;cases hf : bI L a with
  | none => rw [zK hf]; unfold iF; exact adj.2 ha
  | some u =>
   rw [jU hf] at hn;have := Gi (r := r) (bO hf).1 (adq _) (show r u.i < r u.i + 1 by omega);omega
 | succ n ih =>
  intro a hn ha;unfold iF;cases hf : bI L a with
  | none => rw [zK hf]; exact adj.2 ha
  | some u =>
   simp only;by_cases hp : u.p = id
   ·rw [acW hp, Gf hf hp]
   ·rw [acO hp, Mi hr hf hp];refine ih u.p ?_ hp;rw [jU hf] at hn;have hle : rk L r u.p ≤ r u.i := by
     cases hv : bI L u.p with
     | none => rw [Ge hv]; omega
     | some v => rw [jU hv]; have := hr u (bO hf).1 v hv; omega
    have := Gi (r := r) (bO hf).1 hle (show r u.i < r u.i + 1 by omega);omega
theorem EW {L : List Sp} (hr : qH L) {id a : Int} (ha : a ≠ id) : iF L id L.length a = ring L id a := by
 obtain ⟨r, hr⟩ := hr;rw [← Ch hr];exact Jd hr _ _ (adF _ _) ha
structure Br where
 d : Int
 o : Bool
 s : Sp
deriving DecidableEq
instance : Inhabited Br := ⟨⟨0, false, default⟩⟩
def kids (S : List Sp) (k : Int) : List Sp := S.filter fun x => x.p == k
theorem du {S : List Sp} {k : Int} {x : Sp} : x ∈ kids S k ↔ x ∈ S ∧ x.p = k := by
 unfold kids;rw [adT, beq_iff_eq]
def iK (S : List Sp) : Nat → Int → Bool → Sp → List Br
 | 0, d, o, t => [⟨d, o, t⟩]
 | n + 1, d, o, t => ⟨d, o, t⟩ :: (kids S t.i).flatMap (iK S n (d + 1) false)
def Deep (S : List Sp) : Nat → Sp → Prop
 | 0, t => kids S t.i = []
 | n + 1, t => ∀ c ∈ kids S t.i, Deep S n c
theorem Deep.mono {S : List Sp} : ∀ {n m : Nat} {t : Sp}, n ≤ m → Deep S n t → Deep S m t
 | 0, 0, _, _, h => h
 | 0, m + 1, t, _, h => by
  intro c hc;rw [show kids S t.i = [] from h] at hc;simp at hc
 | n + 1, 0, _, hn, _ => by omega
 | n + 1, m + 1, t, hn, h => fun c hc => Deep.mono (by omega) (h c hc)
theorem Cl {S : List Sp} : ∀ {n m : Nat} {d : Int} {o : Bool} {t : Sp}, Deep S n t → n ≤ m → iK S n d o t = iK S m d o t
 | 0, 0, _, _, _, _, _ => rfl
 | 0, m + 1, d, o, t, h, _ => by
  unfold iK;rw [show kids S t.i = [] from h];rfl
 | n + 1, 0, _, _, _, _, hn => by omega
 | n + 1, m + 1, d, o, t, h, hn => by
  unfold iK;rw [aeX, aeX]
  congr 2
  apply List.map_congr_left;intro c hc;exact Cl (h c hc) (by omega)
theorem um {S : List Sp} (n : Nat) (d : Int) (o : Bool) (t : Sp) : ∃ r, iK S n d o t = ⟨d, o, t⟩ :: r := by
 cases n with
 | zero => exact ⟨[], rfl⟩
 | succ n => exact ⟨_, rfl⟩
structure Tidy (S : List Sp) (r : Int → Nat) : Prop where
 ids : S.Pairwise fun x y => x.i ≠ y.i
 rises : rH S r
 pos : ∀ x ∈ S, 1 ≤ x.i
theorem Tidy.par {S : List Sp} {r : Int → Nat} (h : Tidy S r) {c t : Sp} (ht : t ∈ S) (hc : c.p = t.i) : bI S c.p = some t := by
 rw [hc];exact jo h.ids ht
theorem Tidy.up {S : List Sp} {r : Int → Nat} (h : Tidy S r) {c t : Sp} (ht : t ∈ S) (Je : c ∈ S) (hc : c.p = t.i) : r t.i < r c.i := h.rises c Je t (h.par ht hc)
theorem Tidy.nodup {S : List Sp} {r : Int → Nat} (h : Tidy S r) : S.Nodup := h.ids.imp fun aN e => aN (by rw [e])
theorem PD {S : List Sp} {r : Int → Nat} (h : Tidy S r) : ∀ (n : Nat) (t : Sp), (S.filter fun x => decide (r t.i < r x.i)).length ≤ n → t ∈ S → Deep S n t := by
 intro n
 induction n with
 | zero =>
  intro t hn ht
  show kids S t.i = []
  rw [List.eq_nil_iff_forall_not_mem];intro c hc;obtain ⟨Je, PE⟩ := du.1 hc;have bd := h.up ht Je PE;have : c ∈ S.filter fun x => decide (r t.i < r x.i) := adT.2 ⟨Je, ac4 bd⟩;rw [acP (Nat.le_zero.1 hn)] at this;simp at this
 | succ n ih =>
  intro t hn ht c hc;obtain ⟨Je, PE⟩ := du.1 hc;have bd := h.up ht Je PE;refine ih c ?_ Je;have := filter_lt (p := fun x => decide (r c.i < r x.i)) (q := fun x => decide (r t.i < r x.i)) (fun x hx => by rw [adr] at *; omega) Je (ac4 bd) (ac1 (by omega));omega
theorem my {S : List Sp} {r : Int → Nat} (h : Tidy S r) {t : Sp} (ht : t ∈ S) {n : Nat} (hn : S.length ≤ n) : Deep S n t :=
 PD h n t (acN (adF _ _) hn) ht
def sN (S : List Sp) : Nat → Sp → Option Sp
 | 0, x => some x
 | n + 1, x => (bI S x.p).bind (sN S n)
theorem pI {S : List Sp} : ∀ {a b : Nat} {x c : Sp}, sN S a x = some c → sN S (a + b) x = sN S b c
 | 0, b, x, c, h => by
  injection h with h;rw [h, ac2]
 | a + 1, b, x, c, h => by
  rw [show a + 1 + b = (a + b) + 1 by omega];have h' : (bI S x.p).bind (sN S a) = some c := h
  show (bI S x.p).bind (sN S (a + b)) = _
  cases hf : bI S x.p with
  | none => rw [hf] at h'; cases h'
  | some u =>
   rw [hf] at h';exact pI (a := a) h'
theorem Ms {S : List Sp} {a : Nat} {x c t : Sp} (h : sN S a x = some c) (hc : bI S c.p = some t) : sN S (a + 1) x = some t := by
 rw [pI h]
 show (bI S c.p).bind (sN S 0) = some t
 rw [hc];rfl
theorem Gj {S : List Sp} : ∀ {n : Nat} {x c : Sp}, sN S n x = some c → x ∈ S → c ∈ S
 | 0, x, c, h, hx => by injection h with h; rw [← h]; exact hx
 | n + 1, x, c, h, hx => by
  unfold sN at h;cases hf : bI S x.p with
  | none => rw [hf] at h; cases h
  | some u => rw [hf] at h; exact Gj (n := n) h (bO hf).1
theorem uo {S : List Sp} {r : Int → Nat} (hr : Tidy S r) : ∀ {n : Nat} {x c : Sp}, sN S n x = some c → x ∈ S → r c.i + n ≤ r x.i
 | 0, x, c, h, hx => by injection h with h; rw [h]; omega
 | n + 1, x, c, h, hx => by
  unfold sN at h;cases hf : bI S x.p with
  | none => rw [hf] at h; cases h
  | some u =>
   rw [hf] at h;have h1 := uo hr (n := n) h (bO hf).1;have h2 := hr.rises x hx u hf;omega
theorem gU {S : List Sp} {r : Int → Nat} (hr : Tidy S r) : ∀ {n : Nat} {d : Int} {o : Bool} {t : Sp} {y : Br}, t ∈ S → y ∈ iK S n d o t → y.s ∈ S ∧ ∃ k : Nat, sN S k y.s = some t ∧ y.d = d + k ∧ y.o = (o && k == 0)
 | 0, d, o, t, y, ht, hy => by
  unfold iK at hy;rw [aeo] at hy;subst hy;exact ⟨ht, 0, rfl, by simp, by simp⟩
 | n + 1, d, o, t, y, ht, hy => by
  unfold iK at hy;rcases ac9.1 hy with rfl | hy
  ·exact ⟨ht, 0, rfl, by simp, by simp⟩
  ·obtain ⟨c, hc, hy⟩ := adz.1 hy;obtain ⟨Je, PE⟩ := du.1 hc;obtain ⟨h1, k, h2, h3, h4⟩ := gU hr Je hy;exact ⟨h1, k + 1, Ms h2 (hr.par ht PE), by rw [h3]; omega, by rw [h4]; simp⟩
theorem Gk {S : List Sp} {r : Int → Nat} (hr : Tidy S r) {y c c' t : Sp} (hy : y ∈ S) (ht : t ∈ S) (PE : c.p = t.i) (aa6 : c'.p = t.i) {k k' : Nat} (h : sN S k y = some c) (h' : sN S k' y = some c') (hk : k ≤ k') : c = c' := by
 obtain ⟨j, rfl⟩ := Nat.exists_eq_add_of_le hk;rw [pI h] at h';cases j with
 | zero => injection h'
 | succ j =>
  exfalso;unfold sN at h';rw [hr.par ht PE] at h';have h1 := uo hr (show sN S j t = some c' from h') ht;have aa7 := Gj (show sN S j t = some c' from h') ht;have h2 := hr.up ht aa7 aa6;omega
theorem ya {S : List Sp} {r : Int → Nat} (hr : Tidy S r) : ∀ {n : Nat} {d : Int} {o : Bool} {t : Sp}, t ∈ S → ((iK S n d o t).map Br.s).Nodup
 | 0, d, o, t, ht => by simp [iK]
 | n + 1, d, o, t, ht => by
  unfold iK;rw [ad7, List.nodup_cons, List.map_flatMap];constructor
  ·intro hm;obtain ⟨c, hc, hm⟩ := adz.1 hm;obtain ⟨y, hy, Rs⟩ := ads.1 hm;obtain ⟨Je, PE⟩ := du.1 hc;obtain ⟨h1, k, h2, _⟩ := gU hr Je hy;simp only at Rs;rw [Rs] at h2;have h3 := uo hr h2 ht;have h4 := hr.up ht Je PE;omega
  ·unfold List.Nodup;rw [List.pairwise_flatMap];refine ⟨fun c hc => ya hr (du.1 hc).1, ?_⟩;have hk : (kids S t.i).Nodup := List.Pairwise.filter _ hr.nodup;refine List.Pairwise.imp_of_mem (fun {c c'} hc Rt aN => ?_) hk;intro a ha b hb e;subst e;obtain ⟨y, hy, rfl⟩ := ads.1 ha;obtain ⟨y', NK, hs⟩ := ads.1 hb;obtain ⟨h1, k, h2, _⟩ := gU hr (du.1 hc).1 hy;obtain ⟨RQ, k', Ke, _⟩ := gU hr (du.1 Rt).1 NK;rw [hs] at Ke;rcases Nat.le_total k k' with hk | hk
   ·exact aN (Gk hr h1 ht (du.1 hc).2 (du.1 Rt).2 h2 Ke hk)
   ·exact aN (Gk hr h1 ht (du.1 Rt).2 (du.1 hc).2 Ke h2 hk).symm
theorem uq {S : List Sp} : ∀ {n : Nat} {d : Int} {o : Bool} {t x : Sp} {y : Br}, Deep S n t → y ∈ iK S n d o t → x ∈ S → x.p = y.s.i → ∃ z ∈ iK S n d o t, z.s = x
 | 0, d, o, t, x, y, hd, hy, hx, hp => by
  unfold iK at hy;rw [aeo] at hy;subst hy;have : x ∈ kids S t.i := du.2 ⟨hx, hp⟩;rw [show kids S t.i = [] from hd] at this;simp at this
 | n + 1, d, o, t, x, y, hd, hy, hx, hp => by
  unfold iK at hy ⊢;rcases ac9.1 hy with rfl | hy
  ·obtain ⟨r, hr⟩ := um (S := S) n (d + 1) false x;exact ⟨_, ade _ (adz.2 ⟨x, du.2 ⟨hx, hp⟩, by rw [hr]; exact ac8 ..⟩), rfl⟩
  ·obtain ⟨c, hc, hy⟩ := adz.1 hy;obtain ⟨z, hz, EX⟩ := uq (hd c hc) hy hx hp;exact ⟨z, ade _ (adz.2 ⟨c, hc, hz⟩), EX⟩
def roots (S : List Sp) : List Sp := S.filter fun x => x.p == 0
def pJ (S : List Sp) : List Sp := S.filter fun x => !(x.p == 0) && !(bI S x.p).isSome
def jK (S : List Sp) : List Br := (roots S).flatMap (iK S 64 0 false) ++ (pJ S).flatMap (iK S 64 0 true)
theorem Tidy.zero {S : List Sp} {r : Int → Nat} (h : Tidy S r) : bI S 0 = none := by
 rw [jq];intro x hx;have := h.pos x hx;omega
theorem iT {S : List Sp} {x : Sp} : x ∈ roots S ↔ x ∈ S ∧ x.p = 0 := by
 unfold roots;rw [adT, beq_iff_eq]
theorem iU {S : List Sp} {x : Sp} : x ∈ pJ S ↔ x ∈ S ∧ x.p ≠ 0 ∧ bI S x.p = none := by
 unfold pJ;rw [adT, adb, aew, aew, adj, Option.isSome_eq_false_iff, Option.isNone_iff_eq_none]
theorem Gl {S : List Sp} {x t t' : Sp} {k k' : Nat} (h : sN S k x = some t) (h' : sN S k' x = some t') (ht : bI S t.p = none) (NF : bI S t'.p = none) : t = t' := by
 rcases Nat.le_total k k' with hk | hk
 ·obtain ⟨j, rfl⟩ := Nat.exists_eq_add_of_le hk;rw [pI h] at h';cases j with
  | zero => injection h'
  | succ j => unfold sN at h'; rw [ht] at h'; cases h'
 ·obtain ⟨j, rfl⟩ := Nat.exists_eq_add_of_le hk;rw [pI h'] at h;cases j with
  | zero => injection h with h; exact h.symm
  | succ j => unfold sN at h; rw [NF] at h; cases h
theorem PF {S : List Sp} {r : Int → Nat} (hr : Tidy S r) {y : Br} (hy : y ∈ jK S) : y.s ∈ S ∧ ∃ (t : Sp) (k : Nat), t ∈ S ∧ bI S t.p = none ∧ sN S k y.s = some t ∧ y.d = k ∧ y.o = (!(t.p == 0) && k == 0) := by
 unfold jK at hy;rcases ad1.1 hy with hy | hy
 ·obtain ⟨t, ht, hy⟩ := adz.1 hy;obtain ⟨Yc, htp⟩ := iT.1 ht;obtain ⟨h1, k, h2, h3, h4⟩ := gU hr Yc hy;exact ⟨h1, t, k, Yc, by rw [htp]; exact hr.zero, h2, by rw [h3]; omega, by rw [h4, htp]; rfl⟩
 ·obtain ⟨t, ht, hy⟩ := adz.1 hy;obtain ⟨Yc, htp, htn⟩ := iU.1 ht;obtain ⟨h1, k, h2, h3, h4⟩ := gU hr Yc hy;exact ⟨h1, t, k, Yc, htn, h2, by rw [h3]; omega, by rw [h4, adj.2 htp]; rfl⟩
theorem uv {S : List Sp} {r : Int → Nat} (hr : Tidy S r) (T : List Sp) (o : Bool) (hT : T.Nodup) (hm : ∀ t ∈ T, t ∈ S ∧ bI S t.p = none) : ((T.flatMap (iK S 64 0 o)).map Br.s).Nodup := by
 rw [List.map_flatMap];unfold List.Nodup;rw [List.pairwise_flatMap];refine ⟨fun c hc => ya hr (hm c hc).1, ?_⟩;refine List.Pairwise.imp_of_mem (fun {c c'} hc Rt aN => ?_) hT;intro a ha b hb e;subst e;obtain ⟨y, hy, rfl⟩ := ads.1 ha;obtain ⟨y', NK, hs⟩ := ads.1 hb;obtain ⟨h1, k, h2, _⟩ := gU hr (hm c hc).1 hy;obtain ⟨RQ, k', Ke, _⟩ := gU hr (hm c' Rt).1 NK;rw [hs] at Ke;exact aN (Gl h2 Ke (hm c hc).2 (hm c' Rt).2)
theorem Jf {S : List Sp} {r : Int → Nat} (hr : Tidy S r) : ((jK S).map Br.s).Nodup := by
 unfold jK;rw [aed, List.nodup_append];refine ⟨uv hr _ _ (List.Pairwise.filter _ hr.nodup) fun t ht => ?_, uv hr _ _ (List.Pairwise.filter _ hr.nodup) fun t ht => ?_, ?_⟩
 ·obtain ⟨h1, h2⟩ := iT.1 ht;exact ⟨h1, by rw [h2]; exact hr.zero⟩
 ·obtain ⟨h1, h2, h3⟩ := iU.1 ht;exact ⟨h1, h3⟩
 ·intro a ha b hb e;subst e;obtain ⟨y, hy, rfl⟩ := ads.1 ha;obtain ⟨y', NK, hs⟩ := ads.1 hb;obtain ⟨t, ht, hy⟩ := adz.1 hy;obtain ⟨t', NF, NK⟩ := adz.1 NK;obtain ⟨g1, g2⟩ := iT.1 ht;obtain ⟨SP, QK, g3'⟩ := iU.1 NF;obtain ⟨h1, k, h2, _⟩ := gU hr g1 hy;obtain ⟨RQ, k', Ke, _⟩ := gU hr SP NK;rw [hs] at Ke;have := Gl h2 Ke (by rw [g2]; exact hr.zero) g3';rw [← this] at QK;exact QK g2
theorem PG {S : List Sp} {r : Int → Nat} (hr : Tidy S r) (hl : S.length ≤ 64) : ∀ (n : Nat) (x : Sp), r x.i ≤ n → x ∈ S → ∃ y ∈ jK S, y.s = x := by
 have top : ∀ x ∈ S, bI S x.p = none → ∃ y ∈ jK S, y.s = x := fun x hx hf => by
  unfold jK;by_cases hp : x.p = 0
  ·obtain ⟨q, hq⟩ := um (S := S) 64 0 false x;exact ⟨_, aeU _ (adz.2 ⟨x, iT.2 ⟨hx, hp⟩, by rw [hq]; exact ac8 ..⟩), rfl⟩
  ·obtain ⟨q, hq⟩ := um (S := S) 64 0 true x;exact ⟨_, aeD _ (adz.2 ⟨x, iU.2 ⟨hx, hp, hf⟩, by rw [hq]; exact ac8 ..⟩), rfl⟩
 intro n
 induction n with
 | zero =>
  intro x hn hx;cases hf : bI S x.p with
  | none => exact top x hx hf
  | some u => have := hr.rises x hx u hf; omega
 | succ n ih =>
  intro x hn hx;cases hf : bI S x.p with
  | none => exact top x hx hf
  | some u =>
   have := hr.rises x hx u hf;obtain ⟨y, hy, rfl⟩ := ih u (by omega) (bO hf).1;unfold jK at hy ⊢;rcases ad1.1 hy with hy | hy
   ·obtain ⟨t, ht, hy⟩ := adz.1 hy;obtain ⟨z, hz, EX⟩ := uq (my hr (iT.1 ht).1 hl) hy hx (bO hf).2.symm;exact ⟨z, aeU _ (adz.2 ⟨t, ht, hz⟩), EX⟩
   ·obtain ⟨t, ht, hy⟩ := adz.1 hy;obtain ⟨z, hz, EX⟩ := uq (my hr (iU.1 ht).1 hl) hy hx (bO hf).2.symm;exact ⟨z, aeD _ (adz.2 ⟨t, ht, hz⟩), EX⟩
theorem Mt {S : List Sp} {r : Int → Nat} (hr : Tidy S r) (hl : S.length ≤ 64) : ((jK S).map Br.s).Perm S := by
 rw [List.perm_ext_iff_of_nodup (Jf hr) hr.nodup];intro x;constructor
 ·intro hx;obtain ⟨y, hy, rfl⟩ := ads.1 hx;exact (PF hr hy).1
 ·intro hx;obtain ⟨y, hy, rfl⟩ := PG hr hl _ x (acE _) hx;exact ads.2 ⟨y, hy, rfl⟩
theorem Gm {S : List Sp} {r : Int → Nat} (hr : Tidy S r) (hl : S.length ≤ 64) : (jK S).length = S.length := by
 have := (Mt hr hl).length_eq
 rwa [adv] at this
def fY (S : List Sp) : Nat → Int → Int → List Br
 | 0, _, _ => []
 | m + 1, k, d => (kids S k).flatMap fun s => ⟨d, false, s⟩ :: fY S m s.i (d + 1)
theorem uw {S : List Sp} : ∀ {n m : Nat} {d : Int} {o : Bool} {t : Sp}, Deep S n t → n ≤ m → (⟨d, o, t⟩ : Br) :: fY S m t.i (d + 1) = iK S n d o t
 | 0, 0, d, o, t, h, _ => rfl
 | 0, m + 1, d, o, t, h, _ => by
  unfold fY iK;rw [show kids S t.i = [] from h];rfl
 | n + 1, 0, _, _, _, _, hn => by omega
 | n + 1, m + 1, d, o, t, h, hn => by
  unfold fY iK;rw [aeX, aeX]
  congr 2
  apply List.map_congr_left;intro c hc;exact uw (h c hc) (by omega)
theorem oD {α β : Type} {f g : α → List β} : ∀ {l : List α}, (∀ c ∈ l, f c = g c) → l.flatMap f = l.flatMap g
 | [], _ => rfl
 | c :: l, h => by
  rw [adw, adw, h c (ac8 ..), oD fun d hd => h d (ade _ hd)]
theorem Jg (S : List Sp) (m : Nat) (k d : Int) : fY S (m + 1) k d = (kids S k).flatMap fun s => ⟨d, false, s⟩ :: fY S m s.i (d + 1) := rfl
theorem PH {S : List Sp} {r : Int → Nat} (hr : Tidy S r) (hl : S.length ≤ 64) : jK S = fY S 65 0 0 ++ (pJ S).flatMap fun s => ⟨0, true, s⟩ :: fY S 64 s.i 1 := by
 have h1 : (roots S).flatMap (iK S 64 0 false) = fY S (64 + 1) 0 0 := by
  rw [Jg];exact oD fun c hc => (uw (d := 0) (o := false) (my hr (iT.1 hc).1 hl) (acE _)).symm
 have h2 : (pJ S).flatMap (iK S 64 0 true) = (pJ S).flatMap fun s => ⟨0, true, s⟩ :: fY S 64 s.i 1 :=
  oD fun c hc => (uw (d := 0) (o := true) (my hr (iU.1 hc).1 hl) (acE _)).symm
 unfold jK;rw [h1, h2]
theorem Tryz.infoSp : (Tryz.prog.info? 30).map (fun i => (i.zero, i.size, i.bytes)) = some (some (.agg #[.int .i64 0, .int .i64 0, .int .i64 0, .int .i64 0, .int .i64 0, .string ⟨#[]⟩]), 6, 56) := by kernel_rfl
theorem Mv {B : Nat} {w : World} {v : Value} {l : List Sp} (h : aI B w v l) (x : Sp) (hB : B ≤ w.heap.size) (hs : l.length ≤ 1100000) :
  ∃ v' w', (Builtin.append_ #[22, 22] 22 #[v, .slice (some ⟨w.heap.size, 0, none⟩) 1 1]).run prog (w.alloc (.cells #[.int .i64 x.t, .int .i64 x.i, .int .i64 x.p, .int .i64 x.s, .int .i64 x.e, .string x.n] 30)) = .ok v' w' ∧ aI B w' v' (l ++ [x]) ∧ Below B w w' ∧ w.grownBy w' v.ownBlock := by
 obtain ⟨i0, eV, gu, fC, fD⟩ := adM Tryz.infoSp;have xC := ady h (.cells #[.int .i64 x.t, .int .i64 x.i, .int .i64 x.p, .int .i64 x.s, .int .i64 x.e, .string x.n] 30);obtain ⟨v', w', hr, h1, h2, _, h4⟩ := adK (P := prog) (w.alloc (.cells #[.int .i64 x.t, .int .i64 x.i, .int .i64 x.p, .int .i64 x.s, .int .i64 x.e, .string x.n] 30)) B 22 22 30 i0 _ 6 56 aeQ eV gu fC fD rfl (by decide) v l.length (l.flatMap fW) xC ⟨w.heap.size, 0, none⟩ 1 1 (fW x) rfl
  (fun j u hj => by
   rw [bq, ac2, acC _ w.heap.size j _ 30 (0, 0) (acQ w _)]
   simpa [fW] using hj)
  (sL x) (by simp only [maxLen]; omega) (by omega) (by simp; omega)
 have fA : Below B w (w.alloc (.cells #[.int .i64 x.t, .int .i64 x.i, .int .i64 x.p, .int .i64 x.s, .int .i64 x.e, .string x.n] 30)) := (acG _ _).alloc hB _;refine ⟨v', w', hr, ?_, fA.grown h2 (by simp; omega) fun k hk => (adA h k hk).1, ?_⟩
 ·have : (l ++ [x]).flatMap fW = l.flatMap fW ++ fW x := by simp
  unfold aI;rw [this, acH];exact h1
 ·refine ⟨h2.os, h2.tape, h2.output, ?_, fun k hk aN => ?_⟩
  ·have := h2.size;simp at this;omega
  ·rw [h2.block k (by simp; omega) aN];exact aeN _ _ hk
theorem dI {w : World} {ops : Array Oper} {rest : List Oper} {o : Oper} {a : Act} {Q : Exit → Act → World → Prop} (kS : o.guard = none) (s t : Operand)
  (ho : o.op = .call { callee := .builtin .append, args := #[s, t], argTypes := #[22, 22] }) (hty : o.type = 22) {B : Nat} {v : Value} {l : List Sp} (x : Sp)
  (hs : a.eval s = v) (ht : a.eval t = .slice (some ⟨w.heap.size, 0, none⟩) 1 1) (h : aI B w v l) (hB : B ≤ w.heap.size) (hn : l.length ≤ 1100000)
  (hK : ∀ v' w', aI B w' v' (l ++ [x]) → Below B w w' → w.grownBy w' v.ownBlock → wpList prog ops Q rest (a.put o.dst v') w') : wpList prog ops Q (o :: rest) a (w.alloc (.cells #[.int .i64 x.t, .int .i64 x.i, .int .i64 x.p, .int .i64 x.s, .int .i64 x.e, .string x.n] 30)) := by
 obtain ⟨v', w', hr, h1, h2, h3⟩ := Mv h x hB hn;exact adC _ kS s t 22 ho v _ hs ht (by rw [hty]; exact hr) (hK v' w' h1 h2 h3)
def mB : Value → Option (DataW Value × List MemPlace)
 | .slice p n c => some (.held (.slice p n c), [])
 | _ => none
theorem np {v u : Value} {ps : List MemPlace} (h : mB v = some (.held u, ps)) : v = u := by
 cases v <;> simp [mB] at h
 exact h.1
theorem Jh {w : World} {B n s : Nat} {e : TypeId} {v : Value} {xs : List Value} (h : w.ownsRow B e s v n xs) : mB v = some (.held v, []) := by
 rcases h.2 with ⟨rfl, _⟩ | ⟨g, cap, cur, rfl, _⟩
 ·rfl
 ·rfl
theorem sO (w : World) : (zeroValue 22).run prog w = .ok (.slice none 0 0) w := by kernel_rfl
structure dU (w : World) (B b : Nat) (U : Int → List Sp) (V : Int → Value) (D : DataW Value) : Prop where
 map : w.ownsMap prog 3 mB b (Maps.size D) D
 vals : ∀ k, Maps.has D (.int .i64 k) = true → (∀ z, D.atKey (.int .i64 k) z = .held (V k)) ∧ aI B w (V k) (U k)
 none_ : ∀ k, Maps.has D (.int .i64 k) = false → U k = []
 blk : ∀ k i, Maps.has D (.int .i64 k) = true → (V k).ownBlock = some i → i ≠ b
 apart : ∀ k k' i, Maps.has D (.int .i64 k) = true → Maps.has D (.int .i64 k') = true → k ≠ k' → (V k).ownBlock = some i → (V k').ownBlock ≠ some i
def jv (b : Nat) (V : Int → Value) (D : DataW Value) (i : Nat) : Prop := i ≠ b ∧ ∀ k, Maps.has D (.int .i64 k) = true → (V k).ownBlock ≠ some i
theorem dU.grown {w w' : World} {B b : Nat} {U : Int → List Sp} {V : Int → Value} {D : DataW Value} {row : Option Nat} (h : dU w B b U V D) (hg : w.grownBy w' row) (ho : ∀ i, row = some i → jv b V D i) : dU w' B b U V D :=
 ⟨h.map.kept hg fun e => (ho b e.symm).1 rfl, fun k hk => ⟨(h.vals k hk).1, (h.vals k hk).2.grown hg (by
  rcases hv : (V k).ownBlock with _ | i
  ·exact .inl rfl
  ·exact .inr fun e => (ho i e.symm).2 k hk hv)⟩, h.none_, h.blk, h.apart⟩
theorem dU.lt {w : World} {B b : Nat} {U : Int → List Sp} {V : Int → Value} {D : DataW Value} (h : dU w B b U V D) : b < w.heap.size := h.map.lt
theorem dU.Gn {w : World} {B b : Nat} {U : Int → List Sp} {V : Int → Value} {D : DataW Value} (h : dU w B b U V D) {i : Nat} (hi : w.heap.size ≤ i) : jv b V D i :=
 ⟨by have := h.lt; omega, fun k hk e => by have := ((h.vals k hk).2.lt i e).2; omega⟩
theorem PI (w : World) {B : Nat} (hB : B ≤ w.heap.size) (V : Int → Value) : dU (w.alloc (.map #[] 0)) B w.heap.size (fun _ => []) V (.map []) :=
 ⟨World.ownsMap_made w _ _ _, fun k h => (by cases h), fun k _ => rfl, fun k i h => (by cases h), fun k k' i h => (by cases h)⟩
theorem dU.Yd {w : World} {B b : Nat} {U : Int → List Sp} {V : Int → Value} {D : DataW Value} (h : dU w B b U V D) {k : Int} (hk : (Lit.int .i64 k).wf = true) :
  ∃ v, (∀ W : World, W.ownsMap prog 3 mB b (Maps.size D) D → (Instr.lookup 262 (.map (some b)) (.int .i64 k) false).run prog W = .ok v W) ∧ aI B w v (U k) ∧ (Maps.has D (.int .i64 k) = true ∧ v = V k ∨ Maps.has D (.int .i64 k) = false ∧ v = .slice none 0 0) := by
 cases hh : Maps.has D (.int .i64 k) with
 | false =>
  refine ⟨.slice none 0 0, fun W oB => ?_, by rw [h.none_ k hh]; exact aI.nil _ _, .inr ⟨rfl, rfl⟩⟩;obtain ⟨v2, VM, iD, rG⟩ := oB.lookup fe afk (sO W) (zd := .held (.slice none 0 0)) (zp := []) rfl (qG hk);rw [aeT hh] at rG;obtain rfl := np rG;exact iD
 | true =>
  refine ⟨V k, fun W oB => ?_, (h.vals k hh).2, .inl ⟨rfl, rfl⟩⟩;obtain ⟨v2, VM, iD, rG⟩ := oB.lookup fe afk (sO W) (zd := .held (.slice none 0 0)) (zp := []) rfl (qG hk);rw [(h.vals k hh).1] at rG;obtain rfl := np rG;exact iD
theorem dU.look {w : World} {B b : Nat} {U : Int → List Sp} {V : Int → Value} {D : DataW Value} (h : dU w B b U V D) {k : Int} (hk : (Lit.int .i64 k).wf = true) :
  ∃ v, (∀ q, (Instr.lookup 262 (.map (some b)) (.int .i64 k) false).run prog (w.drewN q) = .ok v (w.drewN q)) ∧ aI B w v (U k) ∧ (Maps.has D (.int .i64 k) = true ∧ v = V k ∨ Maps.has D (.int .i64 k) = false ∧ v = .slice none 0 0) := by
 cases hh : Maps.has D (.int .i64 k) with
 | false =>
  refine ⟨.slice none 0 0, fun q => ?_, by rw [h.none_ k hh]; exact aI.nil _ _, .inr ⟨rfl, rfl⟩⟩;have oB : (w.drewN q).ownsMap prog 3 mB b (Maps.size D) D := h.map;obtain ⟨v2, VM, iD, rG⟩ := oB.lookup fe afk (sO (w.drewN q)) (zd := .held (.slice none 0 0)) (zp := []) rfl (qG hk);rw [aeT hh] at rG;obtain rfl := np rG;exact iD
 | true =>
  refine ⟨V k, fun q => ?_, (h.vals k hh).2, .inl ⟨rfl, rfl⟩⟩;have oB : (w.drewN q).ownsMap prog 3 mB b (Maps.size D) D := h.map;obtain ⟨v2, VM, iD, rG⟩ := oB.lookup fe afk (sO (w.drewN q)) (zd := .held (.slice none 0 0)) (zp := []) rfl (qG hk);rw [(h.vals k hh).1] at rG;obtain rfl := np rG;exact iD
theorem dU.push {w w' : World} {B b : Nat} {U : Int → List Sp} {V : Int → Value} {D : DataW Value} (h : dU w B b U V D) {k : Int} (hk : (Lit.int .i64 k).wf = true) {x : Sp} {v v' : Value}
  (hv : Maps.has D (.int .i64 k) = true ∧ v = V k ∨ Maps.has D (.int .i64 k) = false ∧ v = .slice none 0 0) (ho : aI B w' v' (U k ++ [x])) (hg : w.grownBy w' v.ownBlock) (lJ : v'.ownBlock = v.ownBlock ∨ ∃ i, w.heap.size ≤ i ∧ v'.ownBlock = some i) (hN : Maps.size D ≤ 1100000) :
  ∃ Im, (Instr.mapUpdate 262 (.map (some b)) (.int .i64 k) v').run prog w' = .ok () Im ∧ w'.grownBy Im (some b) ∧
   dU Im B b (fun j => if j = k then U k ++ [x] else U j) (fun j => if j = k then v' else V j) (D.put (.int .i64 k) (.held v')) ∧ Maps.size (D.put (.int .i64 k) (.held v')) ≤ Maps.size D + 1 ∧
   (∀ i, jv b V D i → i < w.heap.size → jv b (fun j => if j = k then v' else V j) (D.put (.int .i64 k) (.held v')) i) := by
 have mC : ∀ i, v.ownBlock = some i → i ≠ b ∧ ∀ j, j ≠ k → Maps.has D (.int .i64 j) = true → (V j).ownBlock ≠ some i := fun i hi => by
  rcases hv with ⟨hh, rfl⟩ | ⟨hh, rfl⟩
  ·exact ⟨h.blk k i hh hi, fun j hj hhj => h.apart k j i hh hhj (fun e => hj e.symm) hi⟩
  ·cases hi
 have Ye : w'.ownsMap prog 3 mB b (Maps.size D) D := h.map.kept hg fun e => (mC b e.symm).1 rfl;obtain ⟨Im, dB, T4, hg'⟩ := Ye.update fe afk (by simp only [maxLen]; omega) (qG hk) (d := .held v') (ps := []) (val := v') (Jh ho);have ua := h.map.tidy fe;have qK : b < w.heap.size := h.lt;have Aq : ∀ i, v'.ownBlock = some i → i ≠ b ∧ ∀ j, j ≠ k → Maps.has D (.int .i64 j) = true → (V j).ownBlock ≠ some i := fun i hi => by
  rcases lJ with e | ⟨i', Vr, e⟩
  ·rw [e] at hi; exact mC i hi
  ·rw [e] at hi;injection hi with hi;subst hi;have := h.Gn Vr;exact ⟨this.1, fun j _ => this.2 j⟩
 have Ji : ∀ j, Maps.has (D.put (.int .i64 k) (.held v')) (.int .i64 j) = true → j = k ∨ (j ≠ k ∧ Maps.has D (.int .i64 j) = true) := fun j hj => by
  by_cases e : j = k
  ·exact .inl e
  ·rw [ae_ (fun h => e (by injection h))] at hj;exact .inr ⟨e, hj⟩
 refine ⟨Im, dB, hg', ⟨gG T4, fun j hj => ?_, fun j hj => ?_, fun j i hj hi => ?_, fun j j' i hj Jj aN hi => ?_⟩, ?_, fun i hi acn => ⟨hi.1, fun j hj => ?_⟩⟩
 ·rcases Ji j hj with rfl | ⟨e, hj⟩
  ·refine ⟨fun z => ?_, ?_⟩
   ·rw [Maps.atKey_put_same h.map.isMap (lx _), acW rfl]
   ·simp only [if_true];exact ho.grown hg' (by
     rcases sB : v'.ownBlock with _ | i
     ·exact .inl rfl
     ·exact .inr fun e => (Aq i sB).1 (by injection e))
  ·refine ⟨fun z => ?_, ?_⟩
   ·rw [Maps.atKey_put_other (fun h => e (by injection h)), acO e, (h.vals j hj).1]
   ·simp only [acO e];refine ((h.vals j hj).2.grown hg ?_).grown hg' ?_
    ·rcases sB : v.ownBlock with _ | i
     ·rcases hvj : (V j).ownBlock with _ | i'
      ·exact .inl rfl
      ·exact .inr (by simp)
     ·rcases hvj : (V j).ownBlock with _ | i'
      ·exact .inl rfl
      ·refine .inr fun e2 => ?_;injection e2 with e2;subst e2;exact (mC _ sB).2 j e hj hvj
    ·rcases hvj : (V j).ownBlock with _ | i'
     ·exact .inl rfl
     ·exact .inr fun e2 => h.blk j i' hj hvj (by injection e2)
 ·have e : j ≠ k := by
   rintro rfl;rw [Maps.has_put_same h.map.isMap (lx _)] at hj;cases hj
  rw [ae_ (fun h => e (by injection h))] at hj;simp only [acO e];exact h.none_ j hj
 ·rcases Ji j hj with rfl | ⟨e, hj⟩
  ·simp only [if_true] at hi;exact (Aq i hi).1
  ·simp only [acO e] at hi;exact h.blk j i hj hi
 ·rcases Ji j hj with rfl | ⟨e, Tx⟩
  ·rcases Ji j' Jj with e' | ⟨e', Jj⟩
   ·exact absurd e'.symm aN
   ·simp only [if_true] at hi;simp only [acO e'];exact (Aq i hi).2 j' e' Jj
  ·simp only [acO e] at hi;rcases Ji j' Jj with e2 | ⟨e', Vx⟩
   ·simp only [acW e2];intro h2;exact (Aq i h2).2 j e Tx hi
   ·simp only [acO e'];exact h.apart j j' i Tx Vx aN hi
 ·rw [Maps.size_put ua]
  split <;> omega
 ·rcases Ji j hj with rfl | ⟨e, hj⟩
  ·simp only [if_true];rcases lJ with e | ⟨i', Vr, e⟩
   ·rw [e];rcases hv with ⟨hh, rfl⟩ | ⟨hh, rfl⟩
    ·exact hi.2 j hh
    ·intro e2; cases e2
   ·rw [e];intro e2;injection e2 with e2;omega
  ·simp only [acO e];exact hi.2 j hj
theorem Jk {l : List Sp} {j : Nat} {u : Value} (h : (l.flatMap fW)[j]? = some u) : ∃ x, l[j / 6]? = some x ∧ (fW x)[j % 6]? = some u := by
 have hj := (acL.1 h).1;rw [kD] at hj;have hx : l[j / 6]? = some (l[j / 6]'(by omega)) := acF _;refine ⟨_, hx, ?_⟩;rw [← nj l (j / 6) (j % 6) hx (ae8 _ (by omega)), show j / 6 * 6 + j % 6 = j by omega];exact h
theorem wM {w : World} {v : Value} {l : List Sp} {B : Nat} (hv : aI B w v l) (p : Option Addr) (c : Nat) : (Builtin.append_ #[22, 22] 22 #[v, .slice p 0 c]).run prog w = .ok v w := by
 obtain ⟨i0, eV, gu, fC, fD⟩ := adM Tryz.infoSp;obtain ⟨_, ⟨rfl, _⟩ | ⟨g, cap, cur, rfl, _, _, hl, _⟩⟩ := hv
 ·cases p <;> simp [Builtin.append_, aeu aeQ, Go.sizeOf, typeInfo, eV, Builtin.lenOf, Builtin.firstCells, loadCells, loadCellsFrom]
 ·cases p <;> simp [Builtin.append_, aeu aeQ, Go.sizeOf, typeInfo, eV, Builtin.lenOf, Builtin.firstCells, hl, storeCells, loadCells, loadCellsFrom]
theorem Dx {B : Nat} {w : World} {v u : Value} {l m : List Sp} (h : aI B w v l) (hu : iY w u m) (hB : B ≤ w.heap.size) (hs : (l.length + m.length) * 56 ≤ 140737488355328) :
  ∃ v' w', (Builtin.append_ #[22, 22] 22 #[v, u]).run prog w = .ok v' w' ∧ aI B w' v' (l ++ m) ∧ Below B w w' ∧ w.grownBy w' v.ownBlock := by
 obtain ⟨i0, eV, gu, fC, fD⟩ := adM Tryz.infoSp;obtain ⟨p, n, c, rfl⟩ := hu.sl;have hn := hu.len.1;by_cases h0 : n = 0
 ·subst h0;obtain rfl : m = [] := acP hn.symm;exact ⟨v, w, wM h p c, by rw [adh]; exact h, acG _ _, adk _ _⟩
 ·obtain ⟨g, o, rfl, hx⟩ := hu.at_ (by omega);obtain ⟨v', w', hr, h1, h2, _, h4⟩ := adK (P := prog) w B 22 22 30 i0 _ 6 56 aeQ eV gu fC fD rfl (by decide) v l.length (l.flatMap fW) h ⟨g, o, none⟩ n c (m.flatMap fW) (by rw [kD, hn])
   (fun j u hj => by
    obtain ⟨x, o7, hk⟩ := Jk hj;have := hx (j / 6) x o7 (j % 6) u hk;rw [show o + j / 6 * 6 + j % 6 = o + j by omega] at this;rw [bq];exact this)
   (fun u hu => by
    obtain ⟨x, _, hx⟩ := adz.1 hu;exact sL x u hx) (by simp only [maxLen]; omega) (by omega) hB
  refine ⟨v', w', hr, ?_, (acG _ _).grown h2 hB fun k hk => (adA h k hk).1, h2⟩;unfold aI;rw [adt, acH, ← hn];exact h1
def pK (x : Br) : List Value := [.int .i64 x.d, .bool x.o, .int .i64 x.s.t, .int .i64 x.s.i, .int .i64 x.s.p, .int .i64 x.s.s, .int .i64 x.s.e, .string x.s.n]
theorem gH (x : Br) : (pK x).length = 8 := rfl
theorem zP (x : Br) : ∀ v ∈ pK x, v.oneCell' = true := by
 intro v hv;simp only [pK, ac9, ad_, afd] at hv;rcases hv with rfl | rfl | rfl | rfl | rfl | rfl | rfl | rfl <;> rfl
theorem qL (l : List Br) : (l.flatMap pK).length = l.length * 8 := by
 induction l with
 | nil => rfl
 | cons x r ih => rw [adw, acH, ih, gH, acZ]; omega
theorem uy : ∀ (l : List Br) (i k : Nat) {x : Br}, l[i]? = some x → k < 8 → (l.flatMap pK)[i * 8 + k]? = (pK x)[k]?
 | [], i, k, x, h, _ => by simp at h
 | y :: r, 0, k, x, h, hk => by
  simp only [ad2, adp] at h;subst h;rw [adw, Nat.zero_mul, ac2, aea (by rw [gH]; exact hk)]
 | y :: r, i + 1, k, x, h, hk => by
  rw [aeh] at h;rw [adw, ad6 (by rw [gH]; omega), gH, show (i + 1) * 8 + k - 8 = i * 8 + k by omega];exact uy r i k h hk
def jw (w : World) (g o : Nat) (x : Br) : Prop := ∀ (k : Nat) u, (pK x)[k]? = some u → w.cell? ⟨g, o + k, none⟩ = some u
theorem jw.c0 {w : World} {g o : Nat} {x : Br} (h : jw w g o x) : w.cell? ⟨g, o, none⟩ = some (.int .i64 x.d) := h 0 _ rfl
theorem jw.c1 {w : World} {g o : Nat} {x : Br} (h : jw w g o x) : w.cell? ⟨g, o + 1, none⟩ = some (.bool x.o) := h 1 _ rfl
theorem jw.c2 {w : World} {g o : Nat} {x : Br} (h : jw w g o x) : w.cell? ⟨g, o + 2, none⟩ = some (.int .i64 x.s.t) := h 2 _ rfl
theorem jw.c3 {w : World} {g o : Nat} {x : Br} (h : jw w g o x) : w.cell? ⟨g, o + 3, none⟩ = some (.int .i64 x.s.i) := h 3 _ rfl
theorem jw.c4 {w : World} {g o : Nat} {x : Br} (h : jw w g o x) : w.cell? ⟨g, o + 4, none⟩ = some (.int .i64 x.s.p) := h 4 _ rfl
theorem jw.c5 {w : World} {g o : Nat} {x : Br} (h : jw w g o x) : w.cell? ⟨g, o + 5, none⟩ = some (.int .i64 x.s.s) := h 5 _ rfl
theorem jw.c6 {w : World} {g o : Nat} {x : Br} (h : jw w g o x) : w.cell? ⟨g, o + 6, none⟩ = some (.int .i64 x.s.e) := h 6 _ rfl
theorem jw.c7 {w : World} {g o : Nat} {x : Br} (h : jw w g o x) : w.cell? ⟨g, o + 7, none⟩ = some (.string x.s.n) := h 7 _ rfl
theorem jw.below {w w' : World} {g o : Nat} {x : Br} (h : jw w g o x) (hb : Below w.heap.size w w') : jw w' g o x := fun k u hk => (hb.cell (lt_of_cell (h k u hk))).trans (h k u hk)
def tu (w : World) (v : Value) (l : List Br) : Prop :=
 ∃ (p : Option Addr) (cap : Nat), v = .slice p l.length cap ∧ l.length ≤ cap ∧ cap ≤ maxLen ∧ (p = none → cap = 0) ∧
  (0 < l.length → ∃ g o, p = some ⟨g, o, none⟩ ∧ ∀ (i : Nat) x, l[i]? = some x → jw w g (o + i * 8) x)
theorem tu.nil (w : World) : tu w (.slice none 0 0) [] := ⟨none, 0, rfl, acE _, by simp [maxLen], fun _ => rfl, fun h => absurd h (aez _)⟩
theorem tu.sl {w : World} {v : Value} {l : List Br} (h : tu w v l) : ∃ p n c, v = .slice p n c := by
 obtain ⟨p, c, e, _⟩ := h;exact ⟨p, _, c, e⟩
theorem tu.len {w : World} {p : Option Addr} {n c : Nat} {l : List Br} (h : tu w (.slice p n c) l) : n = l.length ∧ n ≤ c ∧ c ≤ maxLen := by
 obtain ⟨p', c', e, hl, hm, _⟩ := h;injection e with _ e2 e3;subst e2 e3;exact ⟨rfl, hl, hm⟩
theorem tu.at_ {w : World} {p : Option Addr} {n c : Nat} {l : List Br} (h : tu w (.slice p n c) l) (hn : 0 < n) : ∃ g o, p = some ⟨g, o, none⟩ ∧ ∀ (i : Nat) x, l[i]? = some x → jw w g (o + i * 8) x := by
 obtain ⟨p', c', e, _, _, _, hx⟩ := h;injection e with e1 e2 e3;subst e1 e2;exact hx hn
theorem tu.below {w w' : World} {v : Value} {l : List Br} (h : tu w v l) (hb : Below w.heap.size w w') : tu w' v l := by
 obtain ⟨p, c, rfl, hl, hm, hn, hx⟩ := h;refine ⟨p, c, rfl, hl, hm, hn, fun h0 => ?_⟩;obtain ⟨g, o, e, hx⟩ := hx h0;exact ⟨g, o, e, fun i x hi => (hx i x hi).below hb⟩
def bQ (B : Nat) (w : World) (v : Value) (l : List Br) : Prop := w.ownsRow B 90 8 v l.length (l.flatMap pK)
theorem bQ.nil (B : Nat) (w : World) : bQ B w (.slice none 0 0) [] := aex _ _ _ _
theorem bQ.jK {B : Nat} {w : World} {v : Value} {l : List Br} (h : bQ B w v l) : tu w v l := by
 obtain ⟨hl, ⟨rfl, h0⟩ | ⟨g, cap, cur, rfl, hB, hh, hc, hm, hs, ht⟩⟩ := h
 ·obtain rfl : l = [] := acP h0;exact tu.nil w
 ·refine ⟨_, cap, rfl, hc, hm, (fun e => by cases e), fun _ => ⟨g, 0, rfl, fun i x hi k u hk => ?_⟩⟩;have QU : k < 8 := by
   have := (acL.1 hk).1
   rwa [gH] at this
  have Ix := (acL.1 hi).1;have h1 := uy l i k hi QU;rw [hk, ← ht, adQ (by omega), adZ] at h1;rw [acC w g (0 + i * 8 + k) cur _ (0, 0) hh, ac2];exact h1
theorem bQ.lt {B : Nat} {w : World} {v : Value} {l : List Br} (h : bQ B w v l) : ∀ k, v.ownBlock = some k → B ≤ k ∧ k < w.heap.size := adA h
theorem bQ.below {B : Nat} {w w' : World} {v : Value} {l : List Br} (h : bQ B w v l) (hb : Below w.heap.size w w') : bQ B w' v l := adV (row := none) h ⟨hb.os, hb.tape, hb.output, hb.size, fun k hk _ => hb.block k hk⟩ (by cases v.ownBlock <;> simp)
theorem bQ.mono {B B' : Nat} {w : World} {v : Value} {l : List Br} (h : bQ B w v l) (hB : B' ≤ B) : bQ B' w v l := ⟨h.1, h.2.imp id fun ⟨g, cap, cur, e, hb, r⟩ => ⟨g, cap, cur, e, acN hB hb, r⟩⟩
theorem bQ.grown {B : Nat} {w w' : World} {v : Value} {l : List Br} {row : Option Nat} (h : bQ B w v l) (hg : w.grownBy w' row) (aN : v.ownBlock = none ∨ v.ownBlock ≠ row) : bQ B w' v l := adV h hg aN
theorem Tryz.infoBr : (Tryz.prog.info? 90).map (fun i => (i.zero, i.size, i.bytes)) = some (some (.agg #[.int .i64 0, .bool false, .int .i64 0, .int .i64 0, .int .i64 0, .int .i64 0, .int .i64 0, .string ⟨#[]⟩]), 8, 72) := by kernel_rfl
theorem Jl {B : Nat} {w : World} {v : Value} {l : List Br} (h : bQ B w v l) (x : Br) (hB : B ≤ w.heap.size) (hs : l.length ≤ 1100000) :
  ∃ v' w', (Builtin.append_ #[88, 88] 88 #[v, .slice (some ⟨w.heap.size, 0, none⟩) 1 1]).run prog (w.alloc (.cells #[.int .i64 x.d, .bool x.o, .int .i64 x.s.t, .int .i64 x.s.i, .int .i64 x.s.p, .int .i64 x.s.s, .int .i64 x.s.e, .string x.s.n] 90)) = .ok v' w' ∧ bQ B w' v' (l ++ [x]) ∧ Below B w w' ∧ w.grownBy w' v.ownBlock ∧ (v'.ownBlock = v.ownBlock ∨ v'.ownBlock = some (w.heap.size + 1)) := by
 obtain ⟨i0, eV, gu, fC, fD⟩ := adM Tryz.infoBr;have xC := ady h (.cells #[.int .i64 x.d, .bool x.o, .int .i64 x.s.t, .int .i64 x.s.i, .int .i64 x.s.p, .int .i64 x.s.s, .int .i64 x.s.e, .string x.s.n] 90);obtain ⟨v', w', hr, h1, h2, _, h4⟩ := adK (P := prog) (w.alloc (.cells #[.int .i64 x.d, .bool x.o, .int .i64 x.s.t, .int .i64 x.s.i, .int .i64 x.s.p, .int .i64 x.s.s, .int .i64 x.s.e, .string x.s.n] 90)) B 88 88 90 i0 _ 8 72 afn eV gu fC fD rfl (by decide) v l.length (l.flatMap pK) xC ⟨w.heap.size, 0, none⟩ 1 1 (pK x) rfl
  (fun j u hj => by
   rw [bq, ac2, acC _ w.heap.size j _ 90 (0, 0) (acQ w _)]
   simpa [pK] using hj)
  (zP x) (by simp only [maxLen]; omega) (by omega) (by simp; omega)
 have fA : Below B w (w.alloc (.cells #[.int .i64 x.d, .bool x.o, .int .i64 x.s.t, .int .i64 x.s.i, .int .i64 x.s.p, .int .i64 x.s.s, .int .i64 x.s.e, .string x.s.n] 90)) := (acG _ _).alloc hB _;refine ⟨v', w', hr, ?_, fA.grown h2 (by simp; omega) fun k hk => (adA h k hk).1, ?_, ?_⟩
 ·have : (l ++ [x]).flatMap pK = l.flatMap pK ++ pK x := by simp
  unfold bQ;rw [this, acH];exact h1
 ·refine ⟨h2.os, h2.tape, h2.output, ?_, fun k hk aN => ?_⟩
  ·have := h2.size;simp at this;omega
  ·rw [h2.block k (by simp; omega) aN];exact aeN _ _ hk
 ·simpa using h4
theorem uz {l : List Br} {j : Nat} {u : Value} (h : (l.flatMap pK)[j]? = some u) : ∃ x, l[j / 8]? = some x ∧ (pK x)[j % 8]? = some u := by
 have hj := (acL.1 h).1;rw [qL] at hj;have hx : l[j / 8]? = some (l[j / 8]'(by omega)) := acF _;refine ⟨_, hx, ?_⟩;rw [← uy l (j / 8) (j % 8) hx (ae8 _ (by omega)), show j / 8 * 8 + j % 8 = j by omega];exact h
theorem mD {w : World} {v : Value} {l : List Br} {B : Nat} (hv : bQ B w v l) (p : Option Addr) (c : Nat) : (Builtin.append_ #[88, 88] 88 #[v, .slice p 0 c]).run prog w = .ok v w := by
 obtain ⟨i0, eV, gu, fC, fD⟩ := adM Tryz.infoBr;obtain ⟨_, ⟨rfl, _⟩ | ⟨g, cap, cur, rfl, _, _, hl, _⟩⟩ := hv
 ·cases p <;> simp [Builtin.append_, aeu afn, Go.sizeOf, typeInfo, eV, Builtin.lenOf, Builtin.firstCells, loadCells, loadCellsFrom]
 ·cases p <;> simp [Builtin.append_, aeu afn, Go.sizeOf, typeInfo, eV, Builtin.lenOf, Builtin.firstCells, hl, storeCells, loadCells, loadCellsFrom]
theorem Co {B : Nat} {w : World} {v u : Value} {l m : List Br} (h : bQ B w v l) (hu : tu w u m) (hB : B ≤ w.heap.size) (hs : (l.length + m.length) * 72 ≤ 140737488355328) :
  ∃ v' w', (Builtin.append_ #[88, 88] 88 #[v, u]).run prog w = .ok v' w' ∧ bQ B w' v' (l ++ m) ∧ Below B w w' ∧ w.grownBy w' v.ownBlock := by
 obtain ⟨i0, eV, gu, fC, fD⟩ := adM Tryz.infoBr;obtain ⟨p, n, c, rfl⟩ := hu.sl;have hn := hu.len.1;by_cases h0 : n = 0
 ·subst h0;obtain rfl : m = [] := acP hn.symm;exact ⟨v, w, mD h p c, by rw [adh]; exact h, acG _ _, adk _ _⟩
 ·obtain ⟨g, o, rfl, hx⟩ := hu.at_ (by omega);obtain ⟨v', w', hr, h1, h2, _, h4⟩ := adK (P := prog) w B 88 88 90 i0 _ 8 72 afn eV gu fC fD rfl (by decide) v l.length (l.flatMap pK) h ⟨g, o, none⟩ n c (m.flatMap pK) (by rw [qL, hn])
   (fun j u hj => by
    obtain ⟨x, o7, hk⟩ := uz hj;have := hx (j / 8) x o7 (j % 8) u hk;rw [show o + j / 8 * 8 + j % 8 = o + j by omega] at this;rw [bq];exact this)
   (fun u hu => by
    obtain ⟨x, _, hx⟩ := adz.1 hu;exact zP x u hx) (by simp only [maxLen]; omega) (by omega) hB
  refine ⟨v', w', hr, ?_, (acG _ _).grown h2 hB fun k hk => (adA h k hk).1, h2⟩;unfold bQ;rw [adt, acH, ← hn];exact h1
theorem mF {w : World} {ops : Array Oper} {rest : List Oper} {o : Oper} {a : Act} {Q : Exit → Act → World → Prop} (kS : o.guard = none) (s t : Operand)
  (ho : o.op = .call { callee := .builtin .append, args := #[s, t], argTypes := #[88, 88] }) (hty : o.type = 88) {B : Nat} {v u : Value} {l m : List Br}
  (hs : a.eval s = v) (ht : a.eval t = u) (h : bQ B w v l) (hu : tu w u m) (hB : B ≤ w.heap.size) (hn : (l.length + m.length) * 72 ≤ 140737488355328)
  (hK : ∀ v' w', bQ B w' v' (l ++ m) → Below B w w' → w.grownBy w' v.ownBlock → wpList prog ops Q rest (a.put o.dst v') w') : wpList prog ops Q (o :: rest) a w := by
 obtain ⟨v', w', hr, h1, h2, h3⟩ := Co h hu hB hn;exact adC _ kS s t 88 ho v _ hs ht (by rw [hty]; exact hr) (hK v' w' h1 h2 h3)
def eN (w : World) (v : Value) (w' : World) (v' : Value) : Prop := w.grownBy w' v.ownBlock ∧ (v'.ownBlock = v.ownBlock ∨ ∃ i, w.heap.size ≤ i ∧ v'.ownBlock = some i)
theorem eN.refl (w : World) (v : Value) : eN w v w v := ⟨adk _ _, .inl rfl⟩
theorem eN.trans {w w1 w2 : World} {v v1 v2 : Value} (h : eN w v w1 v1) (h' : eN w1 v1 w2 v2) : eN w v w2 v2 := by
 obtain ⟨g, o⟩ := h;obtain ⟨g', o'⟩ := h';refine ⟨⟨g'.os.trans g.os, g'.tape.trans g.tape, g'.output.trans g.output, acN g.size g'.size, fun k hk aN => ?_⟩, ?_⟩
 ·refine (g'.block k (acV hk g.size) fun e => ?_).trans (g.block k hk aN);rcases o with o | ⟨i, hi, o⟩
  ·exact aN (e.trans o)
  ·rw [o] at e;injection e with e;omega
 ·rcases o' with o' | ⟨i, hi, o'⟩
  ·rcases o with o | ⟨j, hj, o⟩
   ·exact .inl (o'.trans o)
   ·exact .inr ⟨j, hj, o'.trans o⟩
  ·exact .inr ⟨i, acN g.size hi, o'⟩
theorem eN.alloc (w : World) (v : Value) (o : Obj) : eN w v (w.alloc o) v := ⟨ada w o _, .inl rfl⟩
theorem dU.ext {w w' : World} {B b : Nat} {U : Int → List Sp} {V : Int → Value} {D : DataW Value} {v v' : Value} (h : dU w B b U V D) (he : eN w v w' v') (ho : ∀ i, v.ownBlock = some i → jv b V D i) : dU w' B b U V D ∧ ∀ i, v'.ownBlock = some i → jv b V D i :=
 ⟨h.grown he.1 fun i hi => ho i hi, fun i hi => by
  rcases he.2 with e | ⟨j, hj, e⟩
  ·exact ho i (by rw [← e]; exact hi)
  ·rw [e] at hi;injection hi with hi;subst hi;exact h.Gn hj⟩
theorem dU.val {w : World} {B b : Nat} {U : Int → List Sp} {V : Int → Value} {D : DataW Value} (h : dU w B b U V D) {k : Int} {v : Value} (hv : Maps.has D (.int .i64 k) = true ∧ v = V k ∨ Maps.has D (.int .i64 k) = false ∧ v = .slice none 0 0) : aI B w v (U k) := by
 rcases hv with ⟨hh, rfl⟩ | ⟨hh, rfl⟩
 ·exact (h.vals k hh).2
 ·rw [h.none_ k hh];exact aI.nil _ _
theorem kH {w w' : World} {v v' : Value} (h : eN w v w' v') {g i : Nat} {u : Value} (hc : w.cell? ⟨g, i, none⟩ = some u) (aN : v.ownBlock ≠ some g) : w'.cell? ⟨g, i, none⟩ = some u :=
 (adi (a := ⟨g, i, none⟩) (h.1.block g (lt_of_cell hc) fun e => aN e.symm)).trans hc
theorem fQ {w : World} {ops : Array Oper} {rest : List Oper} {o : Oper} {a : Act} {Q : Exit → Act → World → Prop} (kS : o.guard = none) (s t : Operand)
  (ho : o.op = .call { callee := .builtin .append, args := #[s, t], argTypes := #[88, 88] }) (hty : o.type = 88) {B : Nat} {v : Value} {l : List Br} (x : Br)
  {H : Nat} (hs : a.eval s = v) (ht : a.eval t = .slice (some ⟨H, 0, none⟩) 1 1) (hH : H = w.heap.size) (h : bQ B w v l) (hB : B ≤ w.heap.size) (hn : l.length ≤ 1100000)
  (hK : ∀ v' w', bQ B w' v' (l ++ [x]) → eN w v w' v' → wpList prog ops Q rest (a.put o.dst v') w') : wpList prog ops Q (o :: rest) a (w.alloc (.cells #[.int .i64 x.d, .bool x.o, .int .i64 x.s.t, .int .i64 x.s.i, .int .i64 x.s.p, .int .i64 x.s.s, .int .i64 x.s.e, .string x.s.n] 90)) := by
 subst hH;obtain ⟨v', w', hr, h1, h2, h3, h4⟩ := Jl h x hB hn;refine adC _ kS s t 88 ho v _ hs ht (by rw [hty]; exact hr) (hK v' w' h1 ⟨h3, ?_⟩);rcases h4 with h4 | h4
 ·exact .inl h4
 ·exact .inr ⟨_, by omega, h4⟩
def zQ (B : Nat) (w : World) (v : Value) (l : List Br) (e : Ending) (w' : World) : Prop := ∃ p n c, e = .returned (.slice p n c) ∧ bQ B w' (.slice p n c) l ∧ eN w v w' (.slice p n c)
theorem Mw (w : World) (x : Br) : jw (w.alloc (.cells #[.int .i64 x.d, .bool x.o, .int .i64 x.s.t, .int .i64 x.s.i, .int .i64 x.s.p, .int .i64 x.s.s, .int .i64 x.s.e, .string x.s.n] 90)) w.heap.size 0 x := fun k u hk => by
 rw [ac2, acC _ w.heap.size k _ 90 (0, 0) (acQ w _)]
 simpa [pK] using hk
theorem rJ {B B0 b : Nat} {N : Int} {U : Int → List Sp} {V : Int → Value} {D : DataW Value} {S : List Sp} (n : Nat) (w : World) (p : Option Addr) (m c : Nat) (l : List Br) (x : Br) (Uc : U x.s.i = kids S x.s.i) (Mx : (Lit.int .i64 x.s.i).wf = true)
  (ih : ∀ (w : World) (p : Option Addr) (m c : Nat) (l : List Br) (z : Br), z.s ∈ kids S x.s.i → dU w B0 b U V D → (∀ i, (Value.slice p m c).ownBlock = some i → jv b V D i) → B ≤ w.heap.size → bQ B w (.slice p m c) l → 0 ≤ z.d → z.d + n ≤ N → l.length + (iK S n z.d z.o z.s).length ≤ 1100000 →
   Calls prog 196 #[.slice p m c, .agg #[.int .i64 z.d, .bool z.o, .int .i64 z.s.t, .int .i64 z.s.i, .int .i64 z.s.p, .int .i64 z.s.s, .int .i64 z.s.e, .string z.s.n], .map (some b)] w (zQ B w (.slice p m c) (l ++ iK S n z.d z.o z.s)))
  (hU : dU w B0 b U V D) (mC : ∀ i, (Value.slice p m c).ownBlock = some i → jv b V D i) (hB : B ≤ w.heap.size) (ho : bQ B w (.slice p m c) l) (Dp : 0 ≤ x.d) (U9 : x.d + (n + 1 : Nat) ≤ N) (hN : N ≤ 1000) (hlen : l.length + (iK S (n + 1) x.d x.o x.s).length ≤ 1100000) :
  Calls prog 196 #[.slice p m c, .agg #[.int .i64 x.d, .bool x.o, .int .i64 x.s.t, .int .i64 x.s.i, .int .i64 x.s.p, .int .i64 x.s.s, .int .i64 x.s.e, .string x.s.n], .map (some b)] w (zQ B w (.slice p m c) (l ++ iK S (n + 1) x.d x.o x.s)) := by
  have IH := af ih;clear ih;have hX : bQ B (w.alloc (.cells #[.int .i64 x.d, .bool x.o, .int .i64 x.s.t, .int .i64 x.s.i, .int .i64 x.s.p, .int .i64 x.s.s, .int .i64 x.s.e, .string x.s.n] 90)) (.slice p m c) l := ady ho _;have bg := Mw w x;have PK : iK S (n + 1) x.d x.o x.s = [⟨x.d, x.o, x.s⟩] ++ (kids S x.s.i).flatMap (iK S n (x.d + 1) false) := rfl;have hvw : ∀ i, (Value.slice p m c).ownBlock = some i → i < w.heap.size := fun i hi => (ho.lt i hi).2;have hUX := (hU.ext (eN.alloc w (.slice p m c) (.cells #[.int .i64 x.d, .bool x.o, .int .i64 x.s.t, .int .i64 x.s.i, .int .i64 x.s.p, .int .i64 x.s.s, .int .i64 x.s.e, .string x.s.n] 90)) mC)
  have r_ : l.length ≤ 1100000 := by omega
  have hKl : ∀ k, l.length + 1 + (((kids S x.s.i).take k).flatMap (iK S n (x.d + 1) false)).length ≤ 1100000 := fun k => by
   rw [PK, acH, aeF] at hlen;have h1 : (kids S x.s.i).flatMap (iK S n (x.d + 1) false) = ((kids S x.s.i).take k).flatMap (iK S n (x.d + 1) false) ++ ((kids S x.s.i).drop k).flatMap (iK S n (x.d + 1) false) := by
    rw [← adt, aeb]
   rw [h1, acH] at hlen;omega
  obtain ⟨K, Ru⟩ : ∃ K, kids S x.s.i = K := ⟨_, rfl⟩
  rw [Ru] at Uc hKl PK IH;rw [PK];have HX := af hX;have qw := af bg;have HVW := af hvw;have HUX := af hUX;have HKL := af hKl;have Yf := af Uc;have aco := af mC;clear hX bg hvw hUX hKl Uc mC PK hU hlen Ru ho;obtain ⟨d, o, t, i, q, s, en, nm⟩ := x;dsimp only at *;go_enter func196, ntmps196
  go_wp2_with (at_builtin; go_must (refine fQ (v := .slice p m c) rfl _ _ rfl rfl ⟨d, o, t, i, q, s, en, nm⟩ rfl rfl (by simp) HX.out (by simp; omega) r_ ?_); intro v2 w2 eX My; obtain ⟨p2, m2, c2, rfl⟩ := eX.jK.sl; have aN : (Value.slice p m c).ownBlock ≠ some w.heap.size := (fun e => by have := HVW.out _ e; omega); have aG := qw.out; have k0 := kH My aG.c0 aN; have k3 := kH My aG.c3 aN; dsimp only [ac2] at k0 k3; have hu2 := HUX.out.1.ext My HUX.out.2; obtain ⟨vv, sI, fj, lJ⟩ := hu2.1.look Mx; rw [Yf.out] at fj; obtain ⟨pv, nv, cv, rfl⟩ := fj.gp.sl; have aa8 : (Instr.lookup 262 (.map (some b)) (.int .i64 i) false).run prog w2 = .ok (.slice pv nv cv) w2 := sI 0; have hlv := fj.gp.len.1; have jO := af (acD eX (acD My lJ)); clear aG sI eX My hu2 lJ fj)
  have HLV := af hlv;clear hlv aa8;go_loopw [0, 8, 19] (fun v _ ix wr => ∃ (k : Nat) (p' : Option Addr) (m' c' : Nat), v = .slice p' m' c' ∧ k ≤ K.length ∧ ix = .int .i64 k ∧ Hid (bQ B wr (.slice p' m' c') (l ++ ([⟨d, o, ⟨t, i, q, s, en, nm⟩⟩] ++ (K.take k).flatMap (iK S n (d + 1) false))) ∧ eN (w.alloc (.cells #[.int .i64 d, .bool o, .int .i64 t, .int .i64 i, .int .i64 q, .int .i64 s, .int .i64 en, .string nm] 90)) (.slice p m c) wr (.slice p' m' c'))) (fun _ _ i _ => K.length - (intOf i).toNat)
  case atStart => exact ⟨0, p2, m2, c2, rfl, adq _, rfl, af ⟨jO.out.1, jO.out.2.1⟩⟩
  case round =>
   obtain ⟨k, p', m', c', rfl, hk, rfl, HR⟩ := hrel;by_cases bd : k < K.length
   ·have oq : (k : Int) < (nv : Int) := by have := HLV.out; omega
    have hu := HUX.out.1.ext HR.out.2 HUX.out.2;have fj := hu.1.val jO.out.2.2;rw [Yf.out] at fj;obtain ⟨g, oo0, rfl, hx⟩ := fj.gp.at_ (by omega);obtain ⟨y, hy⟩ : ∃ y, K[k]? = some y := ⟨_, acF (by have := HLV.out; omega)⟩
    have aG := hx k y hy;obtain ⟨oo, iu⟩ : ∃ oo, oo0 + k * 6 = oo := ⟨_, rfl⟩
    rw [iu] at aG;have z0 := aG.c0;have z1 := aG.c1;have z2 := aG.c2;have z3 := aG.c3;have z4 := aG.c4;have z5 := aG.c5;have Mz := kH HR.out.2 qw.out.c0 aN;dsimp only [ac2] at Mz;have htw : w.heap.size < wr.heap.size := lt_of_cell Mz;have htn : w.heap.size ≠ wr.heap.size := by omega
    have hyK := acS hy;have vV : nv ≤ 9223372036854775807 := by have := (fj.gp.len).2; unfold maxLen at this; omega
    have Gp := HKL.out (k + 1);have lk : K.take (k + 1) = K.take k ++ [y] := by rw [ac5, hy]; rfl
    rw [lk, adt, acH] at Gp;have Rj : [y].flatMap (iK S n (d + 1) false) = iK S n (d + 1) false y := by simp
    rw [Rj] at Gp;have IC := af Gp;have iB := af (acD lk Rj);have HU := af hu;have HY := af hyK;have HY2 := af hy;clear hu fj hx aG hyK Gp lk Rj hy;obtain ⟨yt, yi, yp, ys, ye, yn⟩ := y;dsimp only at *;have kG := IH.out (wr.alloc (.cells #[.int .i64 yt, .int .i64 yi, .int .i64 yp, .int .i64 ys, .int .i64 ye, .string yn] 30)) p' m' c' (l ++ ([(⟨d, o, ⟨t, i, q, s, en, nm⟩⟩ : Br)] ++ (K.take k).flatMap (iK S n (d + 1) false))) ⟨d + 1, false, ⟨yt, yi, yp, ys, ye, yn⟩⟩ HY.out
     (HU.out.1.ext (eN.alloc wr (.slice p' m' c') _) HU.out.2).1 HU.out.2 (by simp; omega) (show bQ B (wr.alloc _) (.slice p' m' c') _ from ady HR.out.1 _) (by simp only; omega) (by simp only; omega) (by
      have := IC.out;simp only [acH, aeF] at this ⊢;omega)
    have HC := af kG;clear kG;dsimp only at HC;have NH : d + 1 ≤ 1000 := by omega
    go_wp2_with fail
    refine HC.out.mono ?_;rintro e3 w3 ⟨p3, m3, c3, rfl, kY, he3⟩;have sW := af (acD kY ((HR.out.2.trans (eN.alloc wr (.slice p' m' c') _)).trans he3));clear kY he3;go_wp2;go_roundw;case rel =>
     refine ⟨k + 1, p3, m3, c3, rfl, by have := HLV.out; omega, by go_num, af ⟨?_, sW.out.2⟩⟩;rw [iB.out.1, adt, iB.out.2];have := sW.out.1
     simpa only [ac7] using this
    case measure => simp [intOf]; have := HLV.out; omega
   ·have hkK : k = K.length := by omega
    subst hkK;have kh := HR.out.1;rw [ad9] at kh;have HF := af kh;clear kh;go_wp2;go_ret;exact ⟨p', m', c', rfl, HF.out, (eN.alloc w (.slice p m c) _).trans HR.out.2⟩
theorem uD {B B0 b : Nat} {U : Int → List Sp} {V : Int → Value} {D : DataW Value} {S : List Sp} (VR : ∀ t ∈ S, U t.i = kids S t.i) (hwf : ∀ t ∈ S, (Lit.int .i64 t.i).wf = true) :
  ∀ (n : Nat) (w : World) (p : Option Addr) (m c : Nat) (l : List Br) (x : Br), x.s ∈ S → Deep S n x.s → dU w B0 b U V D → (∀ i, (Value.slice p m c).ownBlock = some i → jv b V D i) → B ≤ w.heap.size → bQ B w (.slice p m c) l → 0 ≤ x.d → x.d + n + 1 ≤ 1000 → l.length + (iK S n x.d x.o x.s).length ≤ 1100000 →
  Calls prog 196 #[.slice p m c, .agg #[.int .i64 x.d, .bool x.o, .int .i64 x.s.t, .int .i64 x.s.i, .int .i64 x.s.p, .int .i64 x.s.s, .int .i64 x.s.e, .string x.s.n], .map (some b)] w (zQ B w (.slice p m c) (l ++ iK S n x.d x.o x.s))
 | 0, w, p, m, c, l, x, hx, hd, hU, mC, hB, ho, Dp, U9, hlen => by
  rw [Cl (d := x.d) (o := x.o) hd (Nat.le_succ 0)] at hlen ⊢;exact rJ 0 w p m c l x (VR _ hx) (hwf _ hx) (fun w p m c l z hz => by rw [show kids S x.s.i = [] from hd] at hz; simp at hz) hU mC hB ho Dp (N := 1000) (by simp at U9 ⊢; omega) (Int.le_refl _) hlen
 | n + 1, w, p, m, c, l, x, hx, hd, hU, mC, hB, ho, Dp, U9, hlen =>
  rJ n w p m c l x (VR _ hx) (hwf _ hx) (fun w p m c l z hz hU mC hB ho aa9 acp hlen => by
   obtain ⟨h1, h2⟩ := du.1 hz;exact uD VR hwf n w p m c l z h1 (hd z.s hz) hU mC hB ho aa9 (by omega) hlen) hU mC hB ho Dp (N := 999) (by omega) (by decide) hlen
def cQ : Cn := ⟨0, 0, 0, 0, 0⟩
def Cn.plus (a b : Cn) : Cn := ⟨a.add + b.add, a.same + b.same, a.other + b.other, a.dw + b.dw, a.full + b.full⟩
theorem Cn.Yg (a : Cn) : a.plus cQ = a := rfl
theorem Cn.EY (a b c : Cn) : (a.plus b).plus c = a.plus (b.plus c) := by
 unfold Cn.plus;simp only [Nat.add_assoc]
theorem Cn.Jm (a : Cn) : cQ.plus a = a := by
 unfold Cn.plus cQ;simp only [ac2]
noncomputable def wJ (tr : Int) (L l : List Sp) : List Sp := if l.all (fun x => x.ok && decide (x.t = tr)) = true then (cJ L cQ l).1 else L
theorem Rb {x : Sp} (h : x.ok = true) : x.p ≠ x.i := ((Sp.aO x).1 h).ne
theorem B_ (tr : Int) : dT tr [] := ⟨aek, uf, fun x hx => by simp at hx, by simp⟩
theorem dT.perm {tr : Int} {L M : List Sp} (h : dT tr L) (hp : M.Perm L) : dT tr M := by
 have LA : M.Pairwise fun x y => x.i ≠ y.i := hp.symm.pairwise h.ids (fun {x y} sD e => sD e.symm);have aa_ : ∀ k u, bI M k = some u → bI L k = some u := fun k u hu => by
  obtain ⟨h1, h2⟩ := bO hu;rw [← h2];exact jo h.ids (hp.mem_iff.1 h1)
 obtain ⟨r, hr⟩ := h.rises;exact ⟨LA, ⟨r, fun x hx u hu => hr x (hp.mem_iff.1 hx) u (aa_ _ _ hu)⟩, fun x hx => h.ok x (hp.mem_iff.1 hx), by rw [hp.length_eq]; exact h.len⟩
theorem dT.sort {tr : Int} {L : List Sp} (h : dT tr L) : dT tr (aQ L) := h.perm (cG L)
theorem dT.tidy {tr : Int} {L : List Sp} (h : dT tr L) : ∃ r, Tidy L r := by
 obtain ⟨r, hr⟩ := h.rises;exact ⟨r, h.ids, hr, fun x hx => ((Sp.aO x).1 (h.ok x hx).1).i1⟩
theorem Cp {L M : List Sp} (h : L.Pairwise fun x y => x.i ≠ y.i) (hp : M.Perm L) (k : Int) : bI M k = bI L k := by
 have LA : M.Pairwise fun x y => x.i ≠ y.i := hp.symm.pairwise h (fun {x y} sD e => sD e.symm);cases hf : bI L k with
 | none =>
  rw [jq] at hf ⊢;exact fun x hx => hf x (hp.mem_iff.1 hx)
 | some u =>
  obtain ⟨h1, h2⟩ := bO hf;rw [← h2];exact jo LA (hp.mem_iff.2 h1)
theorem Cq {P M : List Sp} {r : Int → Nat} (hr : rH M r) (hid : M.Pairwise fun x y => x.i ≠ y.i) (hs : ∀ y ∈ P, y ∈ M) {x : Sp} (hx : x ∈ M) : ∀ (n : Nat) (a : Int), vF P x.i n a = true → ∃ u, bI P a = some u ∧ r x.i < r u.i
 | 0, a, h => by cases h
 | n + 1, a, h => by
  unfold vF at h;cases hf : bI P a with
  | none => rw [hf] at h; cases h
  | some u =>
   rw [hf] at h;have huM := hs u (bO hf).1;refine ⟨u, rfl, ?_⟩;by_cases hp : u.p = x.i
   ·exact hr u huM x (by rw [hp]; exact jo hid hx)
   ·simp only [acO hp] at h;obtain ⟨v, hv, bd⟩ := Cq hr hid hs hx n u.p h;obtain ⟨hvP, VN⟩ := bO hv;have := hr u huM v (by rw [← VN]; exact jo hid (hs v hvP));omega
theorem BJ {tr : Int} : ∀ (rest pre : List Sp) (c : Cn), dT tr (pre ++ rest) → cJ pre c rest = (pre ++ rest, { c with add := c.add + rest.length })
 | [], pre, c, h => by unfold cJ; rw [adh]; rfl
 | x :: rest, pre, c, h => by
  have hx : x ∈ pre ++ x :: rest := aeD _ (ac8 ..);have hn : bI pre x.i = none := by
   rw [jq];intro y hy;have := (aes.1 h.ids).2.2 y hy x (ac8 ..);exact this
  have hl : ¬ 64 ≤ pre.length := by
   have := h.len;rw [acH, acZ] at this;omega
  have hr : ring pre x.i x.p = false := by
   rw [adJ, ne_eq, kF];rintro ⟨n, hn⟩;obtain ⟨r, hR⟩ := h.rises;have hs : ∀ y ∈ pre, y ∈ pre ++ x :: rest := fun y hy => aeU _ hy;obtain ⟨u, hu, bd⟩ := Cq hR h.ids hs hx n x.p hn;obtain ⟨huP, hui⟩ := bO hu;have := hR x hx u (by rw [← hui]; exact jo h.ids (hs u huP));omega
  have abb : bF pre c x = (pre ++ [x], { c with add := c.add + 1 }) := by
   unfold bF;rw [hn];simp only;rw [acO hl, hr];simp
  unfold cJ;rw [abb];have h' : dT tr ((pre ++ [x]) ++ rest) := by rw [ac7]; exact h
  rw [BJ rest (pre ++ [x]) _ h', ac7];simp only [acZ, aeZ, adE, acT, Cn.mk.injEq, true_and, and_true];omega
end Go.Proofs.YtionbmlicmibgaaGreatDoor
