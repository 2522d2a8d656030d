/- A message's bytes, of which one behind the record's head is another one, or that are cut off. -/
import Derived.Test.YtlmoiaeppehiiaaWPickP
import Derived.BigGuard
import Derived.Test.YtlmoiaeppehiiaaNCode
import Derived.Test.YtlmoiaeppehiiaaRows
import Derived.WalkKit
import Derived.ProofKit
import Derived.OpenShut
import Derived.ShutString
import Derived.ChangeOld
import Derived.Below
import Derived.SizedLaws
/- A record that is cut off. -/
namespace Go.Proofs.Ytlmoiaeppehiiaa
set_option linter.unusedVariables false
set_option linter.unusedSimpArgs false
theorem recL_length (p : List UInt8) : (recL p).length = 1 + (digits p.length).length + p.length + 4 := by
  unfold recL
  rw [List.length_append, tailL_length, front_length]

theorem recL_form (p : List UInt8) : recL p = (93 : UInt8) :: (digits p.length ++ (p ++ tailL (crc (front p)))) := by
  unfold recL front
  simp

/-- A record that is cut off is too short. -/
theorem pick_short (p : List UInt8) (hp : p.length ≤ 65536) (I : Nat) (hI : I < (recL p).length) : pickL ((recL p).take I) = ([], 0, 2) := by
  have hl := recL_length p
  cases I with
  | zero => rfl
  | succ j =>
    have e : (recL p).take (j + 1) = (93 : UInt8) :: (digits p.length ++ (p ++ tailL (crc (front p)))).take j := by
      rw [recL_form, List.take_succ_cons]
    have hlen : ((recL p).take (j + 1)).length = j + 1 := by rw [List.length_take]; omega
    rw [e] at hlen ⊢
    rw [pickL_cons, if_neg (by decide)]
    by_cases hj : j < (digits p.length).length
    · have e2 : (digits p.length ++ (p ++ tailL (crc (front p)))).take j = (digits p.length).take j := by
        rw [List.take_append_of_le_length (by omega)]
      rw [e2, readNum_cut (by omega) hj]
      dsimp only
      unfold pickB
      rw [if_pos (by decide)]
    · obtain ⟨s, hs⟩ : ∃ s, (digits p.length ++ (p ++ tailL (crc (front p)))).take j = digits p.length ++ s := ⟨_, by rw [List.take_append, List.take_of_length_le (by omega)]⟩
      rw [hs] at hlen ⊢
      rw [readNum_digits (by omega)]
      dsimp only
      unfold pickB
      rw [if_neg (by decide), if_neg (by omega), if_pos (by omega)]

end Go.Proofs.Ytlmoiaeppehiiaa
/- A record of which one byte is another one has another sum: plainly. -/
namespace Go.Proofs.Ytlmoiaeppehiiaa
set_option linter.unusedVariables false
set_option linter.unusedSimpArgs false

theorem xor_cancel {a b k : Nat} (h : a ^^^ k = b ^^^ k) : a = b := by
  have := congrArg (· ^^^ k) h
  simpa [Nat.xor_assoc] using this

theorem xor_cancel_left {a b k : Nat} (h : k ^^^ a = k ^^^ b) : a = b := xor_cancel (k := k) (by rw [Nat.xor_comm a k, Nat.xor_comm b k]; exact h)

theorem step1_inj {a b : Nat} (ha : a < 4294967296) (hb : b < 4294967296) (h : step1 a = step1 b) : a = b := by
  have odd : ∀ c : Nat, ((2 * c) ^^^ 79764919) % 2 = 1 := fun c => by
    simp
  have e : ∀ c : Nat, ¬ c < 2147483648 → 2 * c - 4294967296 = 2 * (c - 2147483648) := fun c hc => by omega
  unfold step1 at h
  by_cases h1 : a < 2147483648 <;> by_cases h2 : b < 2147483648
  · rw [if_pos h1, if_pos h2] at h
    omega
  · rw [if_pos h1, if_neg h2, e b h2] at h
    have := odd (b - 2147483648)
    omega
  · rw [if_neg h1, if_pos h2, e a h1] at h
    have := odd (a - 2147483648)
    omega
  · rw [if_neg h1, if_neg h2] at h
    have := xor_cancel h
    omega

theorem it_inj {a b : Nat} (ha : a < 4294967296) (hb : b < 4294967296) : ∀ k, it k a = it k b → a = b
  | 0, h => h
  | k + 1, h => it_inj ha hb k (step1_inj (it_lt ha k) (it_lt hb k) h)

theorem stepB_inj {a b : Nat} (ha : a < 4294967296) (hb : b < 4294967296) {x : UInt8} (h : stepB a x = stepB b x) : a = b :=
  xor_cancel (it_inj (start_lt ha x) (start_lt hb x) 8 h)

theorem stepB_byte {a : Nat} (ha : a < 4294967296) {x y : UInt8} (h : stepB a x = stepB a y) : x = y := by
  have := xor_cancel_left (it_inj (start_lt ha x) (start_lt ha y) 8 h)
  exact UInt8.toNat_inj.1 (by omega)

theorem crcF_inj : ∀ (l : List UInt8) {a b : Nat}, a < 4294967296 → b < 4294967296 → crcF a l = crcF b l → a = b
  | [], _, _, _, _, h => h
  | x :: l, a, b, ha, hb, h => by
    rw [crcF_cons, crcF_cons] at h
    exact stepB_inj ha hb (crcF_inj l (stepB_lt ha x) (stepB_lt hb x) h)

theorem crc_turned (A B : List UInt8) {x y : UInt8} (hxy : x ≠ y) : crc (A ++ x :: B) ≠ crc (A ++ y :: B) := by
  intro h
  unfold crc at h
  rw [crcF_append, crcF_append, crcF_cons, crcF_cons] at h
  have hA : crcF 4294967295 A < 4294967296 := crc_lt A
  exact hxy (stepB_byte hA (crcF_inj B (stepB_lt hA x) (stepB_lt hA y) h))

theorem tailL_inj {a b : Nat} (ha : a < 4294967296) (hb : b < 4294967296) (h : tailL a = tailL b) : a = b := by
  unfold tailL at h
  simp only [List.cons.injEq, and_true] at h
  obtain ⟨h0, h1, h2, h3⟩ := h
  have f : ∀ {u v : Nat}, u < 256 → v < 256 → UInt8.ofNat u = UInt8.ofNat v → u = v := fun hu hv e => by
    have := congrArg UInt8.toNat e
    rwa [ofNat_toNat hu, ofNat_toNat hv] at this
  have g0 := f (by omega) (by omega) h0
  have g1 := f (by omega) (by omega) h1
  have g2 := f (by omega) (by omega) h2
  have g3 := f (by omega) (by omega) h3
  omega

/-- A head with a payload's length, as many bytes, and a tail: what is picked. -/
theorem pick_form (p t : List UInt8) (hp : p.length ≤ 65536) (ht : t.length = 4) (hne : t ≠ tailL (crc (front p))) : pickL (front p ++ t) = ([], 0, 11) := by
  have hd := digits_length p.length (by omega)
  have e0 : front p ++ t = (93 : UInt8) :: (digits p.length ++ (p ++ t)) := by
    unfold front
    simp
  have hfl := front_length p
  have eT : ((93 : UInt8) :: (digits p.length ++ (p ++ t))).take (1 + (digits p.length).length + p.length) = front p := by
    rw [← e0, ← hfl, List.take_left]
  have eD : (((93 : UInt8) :: (digits p.length ++ (p ++ t))).drop (1 + (digits p.length).length + p.length)).take 4 = t := by
    rw [← e0, ← hfl, List.drop_left, ← ht, List.take_length]
  have hlen : ((93 : UInt8) :: (digits p.length ++ (p ++ t))).length = (front p).length + 4 := by
    rw [← e0, List.length_append, ht]
  rw [e0, pickL_cons, if_neg (by decide), readNum_digits (show p.length < 9223372036854775808 by omega)]
  dsimp only
  unfold pickB
  rw [if_neg (by simp), if_neg (by omega), if_neg (by rw [hlen]; omega), eT, eD, if_neg hne]

theorem set_split {l : List UInt8} {i : Nat} {x : UInt8} (h : i < l.length) : ∃ A B, l = A ++ l[i] :: B ∧ l.set i x = A ++ x :: B := by
  refine ⟨l.take i, l.drop (i + 1), ?_, ?_⟩
  · rw [List.getElem_cons_drop, List.take_append_drop]
  · exact List.set_eq_take_append_cons_drop ▸ (by simp [h])

/-- One byte of the payload or of the sum is another one. -/
theorem pick_turned (p : List UInt8) (hp : p.length ≤ 65536) (j : Nat) (hj1 : (recL p).length - (p.length + 4) ≤ j) (hj : j < (recL p).length) (x : UInt8) (hx : (recL p)[j]? ≠ some x) : pickL ((recL p).set j x) = ([], 0, 11) := by
  have hfl := front_length p
  have hrl : (recL p).length = (front p).length + 4 := by unfold recL; rw [List.length_append, tailL_length]
  by_cases hjf : j < (front p).length
  · have hset : (recL p).set j x = (front p).set j x ++ tailL (crc (front p)) := by
      unfold recL
      rw [List.set_append_left _ _ hjf]
    have hge : (recL p)[j]? = (front p)[j]? := by
      unfold recL
      rw [List.getElem?_append_left hjf]
    rw [hge, List.getElem?_eq_getElem hjf] at hx
    let i := j - (1 + (digits p.length).length)
    have hi : i < p.length := by omega
    have hfp : (front p).set j x = front (p.set i x) := by
      unfold front
      rw [List.length_set, List.set_append_right _ _ (by simp; omega)]
      congr 2
      simp only [List.length_cons]
      omega
    rw [hset, hfp]
    refine pick_form _ _ (by rw [List.length_set]; exact hp) (tailL_length _) ?_
    intro h
    have h2 := tailL_inj (crc_lt _) (crc_lt _) h
    rw [← hfp] at h2
    obtain ⟨A, B, e1, e2⟩ := set_split (x := x) hjf
    rw [e2] at h2
    rw [show crc (front p) = crc (A ++ (front p)[j] :: B) by rw [← e1]] at h2
    exact crc_turned A B (fun h => hx (by rw [h])) h2
  · have hset : (recL p).set j x = front p ++ (tailL (crc (front p))).set (j - (front p).length) x := by
      unfold recL
      rw [List.set_append_right _ _ (by omega)]
    have hge : (recL p)[j]? = (tailL (crc (front p)))[j - (front p).length]? := by
      unfold recL
      rw [List.getElem?_append_right (by omega)]
    rw [hset]
    refine pick_form _ _ hp (by rw [List.length_set]; exact tailL_length _) ?_
    intro h
    rw [hge, ← h, List.getElem?_set_self (by rw [tailL_length]; omega)] at hx
    exact hx rfl

open Go.RowKit

/-- A byte of an owned slice, and what is owned behind a store there. -/
theorem Own.cellAt {B : Nat} {w : World} {p : Option Addr} {n c : Nat} {l : List UInt8} (h : Own B w (.slice p n c) l) {j : Nat} (hj : j < n) :
    ∃ (g : Nat) (y : UInt8), p = some ⟨g, 0, none⟩ ∧ B ≤ g ∧ l[j]? = some y ∧ w.cell? ⟨g, j, none⟩ = some (.int .u8 (y.toNat : Int)) ∧ w.frozen? ⟨g, j, none⟩ = false ∧
      ∀ u : UInt8, Own B (w.setCell ⟨g, j, none⟩ (.int .u8 (u.toNat : Int))) (.slice p n c) (l.set j u) := by
  rcases h with ⟨e, rfl⟩ | ⟨g, cap, e, hB, hl, hm, hc, hs, hf⟩
  · injection e with _ e2 _
    omega
  · injection e with e1 e2 e3
    subst e1 e3
    have hjl : j < l.length := by omega
    have hcj := hc j _ (List.getElem?_eq_getElem hjl)
    refine ⟨g, l[j], rfl, hB, List.getElem?_eq_getElem hjl, hcj, hf j (by omega), fun u => .inr ⟨g, c, by rw [List.length_set, e2], hB, by rw [List.length_set]; exact hl, hm, fun i x hx => ?_, fun i hi => ?_, fun i hi => ?_⟩⟩
    · by_cases hij : i = j
      · subst hij
        rw [List.getElem?_set_self hjl] at hx
        injection hx with hx
        subst hx
        rw [World.cell?_setCell_same (h := hcj)]
        rfl
      · rw [List.getElem?_set_ne (by omega)] at hx
        rw [World.cell?_setCell_other _ _ _ _ (by intro h; injection h with _ h; omega)]
        exact hc i x hx
    · by_cases hij : i = j
      · subst hij
        rw [World.cell?_setCell_same (h := hcj)]
        rfl
      · rw [World.cell?_setCell_other _ _ _ _ (by intro h; injection h with _ h; omega)]
        exact hs i hi
    · rw [World.frozen?_setCell]
      exact hf i hi

theorem mod_nat (a : Int) (m : Nat) (hm : 0 < m) : ∃ I : Nat, I < m ∧ (IntKind.u64.wrap a).tmod (m : Int) = (I : Int) ∧ IntKind.u64.wrap a % (m : Int) = (I : Int) := by
  have h0 := wrap_u64_nonneg a
  obtain ⟨U, hU⟩ := Int.eq_ofNat_of_zero_le h0
  rw [hU]
  refine ⟨U % m, Nat.mod_lt _ hm, ?_, ?_⟩
  · rw [Int.tmod_eq_emod_of_nonneg (by omega)]
    simp
  · simp

theorem xor_ne (b : UInt8) (Y : Nat) (hY : Y < 255) : bits BinOp.xor IntKind.u8 (b.toNat : Int) (1 + (Y : Int)) = ((UInt8.ofNat (b.toNat ^^^ (1 + Y))).toNat : Int) ∧ UInt8.ofNat (b.toNat ^^^ (1 + Y)) ≠ b := by
  have hb := b.toNat_lt
  have hx : b.toNat ^^^ (1 + Y) < 256 := Nat.xor_lt_two_pow (n := 8) (by omega) (by omega)
  have h1 := u8_xor_nat b.toNat (1 + Y) (by omega) (by omega)
  have e : ((1 + Y : Nat) : Int) = 1 + (Y : Int) := by omega
  rw [e] at h1
  refine ⟨by rw [h1, ofNat_toNat hx], fun h => ?_⟩
  have h2 := congrArg UInt8.toNat h
  rw [ofNat_toNat hx] at h2
  have h3 : b.toNat ^^^ (1 + Y) = b.toNat ^^^ 0 := by rw [h2, Nat.xor_zero]
  have := xor_cancel_left h3
  omega

end Go.Proofs.Ytlmoiaeppehiiaa
/- A message's bytes, of which one behind the record's head is another one, or that are cut off. -/
namespace Go.Proofs.Ytlmoiaeppehiiaa
set_option linter.unusedVariables false
set_option linter.unusedSimpArgs false
open Go.RowKit

theorem getI_err {l : List UInt8} {E : Nat} (h : pickL l = ([], 0, E)) (hE : E ≠ 0) : getI l = (ms0, (E : Int)) := by
  unfold getI
  rw [h]
  dsimp only
  rw [if_pos hE]
theorem payL_13 (m : Ms) : 13 ≤ (payL m).length := by
  have h := fun n => digits_pos n
  have a1 := h m.k.toNat
  have a2 := h m.f.toNat
  have a3 := h m.t.toNat
  have a4 := h m.tm.toNat
  have a5 := h m.ix.toNat
  have a6 := h m.lt.toNat
  have a7 := h m.cm.toNat
  have a8 := h m.rd.toNat
  have a9 := h m.ys.toNat
  have a10 := h m.dn.toNat
  have a11 := h m.es.length
  have a12 := h m.vs.length
  have a13 := h m.d.length
  simp only [payL, headB, nsB, numB, Ms.nums, List.map_cons, List.map_nil, List.flatten_cons, List.flatten_nil, List.length_append, List.length_nil]
  omega
theorem digits_3 {n : Nat} (h : n ≤ 40000) : (digits n).length ≤ 3 := by
  unfold digits
  have := hi_length (n / 128) 2 (by omega)
  simp
  omega
theorem By.pre {w : World} {p : Option Addr} {n c : Nat} {l : List UInt8} (h : By w (.slice p n c) l) (I : Nat) (hI : I ≤ n) : By w (.slice p I c) (l.take I) := by
  have hn := h.len.1
  obtain ⟨p', c', e, h1, h2, h3, h4⟩ := h
  injection e with e1 e2 e3
  subst e1 e3
  refine ⟨p, c, by rw [List.length_take, Nat.min_eq_left (by omega)], by rw [List.length_take]; omega, h2, fun e => ?_, fun b e i y hy => ?_⟩
  · have := h3 e
    first | omega | (rw [List.length_take]; omega)
  · have hil := (List.getElem?_eq_some_iff.1 hy).1
    rw [List.length_take] at hil
    rw [List.getElem?_take_of_lt (by omega)] at hy
    exact h4 b e i y hy
theorem mss_one1 {W : World} {b : Nat} {m : Ms} {pe pv pd : Option Addr} {ne ce nv cv nd cd : Nat} (hr : W.heap[b]? = some (.cells #[.int .i64 m.k, .int .i64 m.f, .int .i64 m.t, .int .i64 m.tm, .int .i64 m.ix, .int .i64 m.lt, .int .i64 m.cm, .int .i64 m.rd, .bool m.ys, .bool m.dn, .slice pe ne ce, .slice pv nv cv, .slice pd nd cd] 26 (0, 0))) (h : MsV W m (.slice pe ne ce) (.slice pv nv cv) (.slice pd nd cd)) : Mss W (.slice (some ⟨b, 0, none⟩) 1 1) [m] := by
  refine ⟨_, 1, rfl, Nat.le_refl _, by decide, fun k x hk => ?_⟩
  match k, hk with
  | 0, hk =>
    simp at hk
    subst hk
    refine ⟨b, 0, _, _, _, rfl, h, fun j x hj => ?_⟩
    have hjl := (List.getElem?_eq_some_iff.1 hj).1
    rw [cell_of_row W b _ _ _ (0, 0) hr]
    rw [← hj]
    have h13 : j < 13 := hjl
    match j, h13 with
    | 0, _ => rfl
    | 1, _ => rfl
    | 2, _ => rfl
    | 3, _ => rfl
    | 4, _ => rfl
    | 5, _ => rfl
    | 6, _ => rfl
    | 7, _ => rfl
    | 8, _ => rfl
    | 9, _ => rfl
    | 10, _ => rfl
    | 11, _ => rfl
    | 12, _ => rfl
  | k + 1, hk => simp at hk

set_option maxRecDepth 200000 in
set_option maxHeartbeats 4000000 in
theorem lawTurned_any {w : World} {m : Ms} {ve vv vd : Value} (h : MsV w m ve vv vd) (at_ x_ : Int) : Calls Try.prog 6 #[msA m ve vv vd, .int .i64 at_, .int .i64 x_] w fun e w' => e = .returned (.bool true) ∧ Below w.heap.size w w' := by
  obtain ⟨pe, ne, ce, rfl⟩ := h.es.sl
  obtain ⟨pv, nv, cv, rfl⟩ := h.vs.sl
  obtain ⟨pd, nd, cd, rfl⟩ := h.d.sl
  have HPU := hide (fun W (hW : Below w.heap.size w W) => put_any (h.below hW))
  have HAW := hide (fun W => awake_any W)
  have HMV := hide (fun W (hW : Below w.heap.size w W) => h.below hW)
  have HIN := hide (fun ok : okM m = true => (⟨ok, h.fits, h.es.fits, h.vs.fits⟩ : MIn m).len)
  have HB0 := hide ((Below.refl w.heap.size w).alloc (Nat.le_refl _) (.cells #[.int .i64 m.k, .int .i64 m.f, .int .i64 m.t, .int .i64 m.tm, .int .i64 m.ix, .int .i64 m.lt, .int .i64 m.cm, .int .i64 m.rd, .bool m.ys, .bool m.dn, .slice pe ne ce, .slice pv nv cv, .slice pd nd cd] 26))
  have HX0 := hide (Box13.new w 26 (.int .i64 m.k) (.int .i64 m.f) (.int .i64 m.t) (.int .i64 m.tm) (.int .i64 m.ix) (.int .i64 m.lt) (.int .i64 m.cm) (.int .i64 m.rd) (.bool m.ys) (.bool m.dn) (.slice pe ne ce) (.slice pv nv cv) (.slice pd nd cd))
  have HB1 := hide (HB0.out.alloc HB0.out.size (.cells #[.int .i64 m.k, .int .i64 m.f, .int .i64 m.t, .int .i64 m.tm, .int .i64 m.ix, .int .i64 m.lt, .int .i64 m.cm, .int .i64 m.rd, .bool m.ys, .bool m.dn, .slice pe ne ce, .slice pv nv cv, .slice pd nd cd] 26))
  have hr1 := heap_alloc_new (w.alloc (.cells #[.int .i64 m.k, .int .i64 m.f, .int .i64 m.t, .int .i64 m.tm, .int .i64 m.ix, .int .i64 m.lt, .int .i64 m.cm, .int .i64 m.rd, .bool m.ys, .bool m.dn, .slice pe ne ce, .slice pv nv cv, .slice pd nd cd] 26)) (.cells #[.int .i64 m.k, .int .i64 m.f, .int .i64 m.t, .int .i64 m.tm, .int .i64 m.ix, .int .i64 m.lt, .int .i64 m.cm, .int .i64 m.rd, .bool m.ys, .bool m.dn, .slice pe ne ce, .slice pv nv cv, .slice pd nd cd] 26)
  have hzz : (w.alloc (.cells #[.int .i64 m.k, .int .i64 m.f, .int .i64 m.t, .int .i64 m.tm, .int .i64 m.ix, .int .i64 m.lt, .int .i64 m.cm, .int .i64 m.rd, .bool m.ys, .bool m.dn, .slice pe ne ce, .slice pv nv cv, .slice pd nd cd] 26)).heap.size = w.heap.size + 1 := by simp
  have HX1 := hide (HX0.out.below ((Below.refl _ _).alloc (Nat.le_refl _) (.cells #[.int .i64 m.k, .int .i64 m.f, .int .i64 m.t, .int .i64 m.tm, .int .i64 m.ix, .int .i64 m.lt, .int .i64 m.cm, .int .i64 m.rd, .bool m.ys, .bool m.dn, .slice pe ne ce, .slice pv nv cv, .slice pd nd cd] 26)))
  rw [hzz] at hr1
  have HWT := hide (weight_any (mss_one1 hr1 (HMV.out _ HB1.out)))
  unfold PutPost at HPU
  obtain ⟨q, hq⟩ : ∃ q, okM m = q := ⟨_, rfl⟩
  unfold putL chkM at HPU
  rw [hq] at HPU HIN
  unfold msA at HPU ⊢
  try dsimp only at HPU
  try dsimp only
  clear h hr1 hzz hq
  go_enter Try.func6, Try.ntmps6
  obtain ⟨y0, y1, y2, y3, y4, y5, y6, y7, y8, y9, y10, y11, y12⟩ := HX0.out
  go_wp2_with fail
  refine HWT.out.mono ?_
  rintro e w2 ⟨⟨x, rfl⟩, hb2⟩
  have HB2 := hide (HB1.out.trans (hb2.mono HB1.out.size))
  have HX2 := hide (HX1.out.below hb2)
  clear hb2 y0 y1 y2 y3 y4 y5 y6 y7 y8 y9 y10 y11 y12
  by_cases hx : 65536 < x
  · have ex : decide (65536 < x) = true := decide_eq_true hx
    go_wp2_with fail
    refine (HAW.out _).mono ?_
    rintro e w3 ⟨rfl, hb3⟩
    go_wp2
    go_ret
    exact ⟨rfl, HB2.out.trans (hb3.mono HB2.out.size)⟩
  · have ex : decide (65536 < x) = false := decide_eq_false hx
    obtain ⟨y0, y1, y2, y3, y4, y5, y6, y7, y8, y9, y10, y11, y12⟩ := HX2.out
    go_wp2_with fail
    refine (HPU.out _ HB2.out).mono ?_
    rintro e w3 ⟨v3, rfl, ho3, hb3⟩
    obtain ⟨p3, n3, c3, rfl⟩ := ho3.by_.sl
    have HB3 := hide (HB2.out.trans (hb3.mono HB2.out.size))
    have HS2 : Hid (w.heap.size ≤ w2.heap.size) := hide HB2.out.size
    have HO3 := hide ho3
    clear hb3 ho3 y0 y1 y2 y3 y4 y5 y6 y7 y8 y9 y10 y11 y12
    cases q with
    | false =>
      simp only [Bool.false_eq_true, if_false] at HO3 ⊢
      go_wp2_with fail
      refine (HAW.out _).mono ?_
      rintro e w4 ⟨rfl, hb4⟩
      go_wp2
      go_ret
      exact ⟨rfl, HB3.out.trans (hb4.mono HB3.out.size)⟩
    | true =>
      simp only [if_true] at HO3 ⊢
      obtain ⟨P, hP⟩ : ∃ P, payL m = P := ⟨_, rfl⟩
      have hP4 := HIN.out rfl
      have hP13 := payL_13 m
      rw [hP] at HO3 hP4 hP13
      have hrl := recL_length P
      have hd1 := digits_pos P.length
      have hd3 := digits_3 hP4
      have hn3 := HO3.out.by_.len.1
      have hnn : ¬ (n3 : Int) < 19 := by omega
      have hn3u : (n3 : Int) ≤ 50000 := by omega
      have hn3l : (19 : Int) ≤ (n3 : Int) := by omega
      obtain ⟨I, hI, hI1, hI2⟩ := mod_nat at_ n3 (by omega)
      obtain ⟨J, hJ, hJ1, hJ2⟩ := mod_nat at_ (n3 - 4) (by omega)
      obtain ⟨YY, hY, hY1, hY2⟩ := mod_nat x_ 255 (by omega)
      have e4 : ((n3 - 4 : Nat) : Int) = (n3 : Int) - 4 := by omega
      rw [e4] at hJ1 hJ2
      have e5 : ((255 : Nat) : Int) = 255 := rfl
      rw [e5] at hY1 hY2
      have hIb : (I : Int) < (n3 : Int) := by omega
      have hIc : (I : Int) ≤ (n3 : Int) := by omega
      have hJb : (J : Int) < (n3 : Int) - 4 := by omega
      have hYb : (YY : Int) < 255 := by omega
      obtain ⟨g, y, rfl, hBg, hy, hcell, hfr, hset⟩ := HO3.out.cellAt (j := 4 + J) (by omega)
      have hc3 := HO3.out.by_.len.2
      have HGS := hide (get_any (HO3.out.by_.pre I (by omega)))
      have hsh := pick_short P (by omega) I (by omega)
      rw [getI_err hsh (by decide)] at HGS
      unfold PeekPost at HGS
      obtain ⟨hx1, hx2⟩ := xor_ne y YY hY
      have hpick := pick_turned P (by omega) (4 + J) (by omega) (by omega) (UInt8.ofNat (y.toNat ^^^ (1 + YY))) (by rw [hy]; intro h; injection h with h; exact hx2 h.symm)
      have HGI := hide (getI_err hpick (by decide))
      have HX1' := hide hx1
      have HNE := hide hy
      have HJN : Hid (4 + J < n3) := hide (by omega)
      have HBG : Hid (w2.heap.size ≤ g) := hide hBg
      clear hpick hsh hx1 hx2 hset hy hP hrl hd1 hd3 hn3 hP4 hP13 e4 e5 hcell hfr hBg HX0 HX1 HX2 HWT
      have hcc : (n3 : Int) ≤ (c3 : Int) := by omega
      have hci : (I : Int) ≤ (c3 : Int) := by omega
      go_wp2_with fail
      refine HGS.out.mono ?_
      rintro e w5 ⟨ue, uv, ud, rfl, hm5, hb5⟩
      obtain ⟨pe5, ne5, ce5, rfl⟩ := hm5.es.ens.sl
      obtain ⟨pv5, nv5, cv5, rfl⟩ := hm5.vs.ns.sl
      obtain ⟨pd5, nd5, cd5, rfl⟩ := hm5.d.by_.sl
      have HB5 := hide (HB3.out.trans (hb5.mono HB3.out.size))
      have b6 := (Below.refl w5.heap.size w5).alloc (Nat.le_refl _) (.cells #[.int .i64 0, .int .i64 0, .int .i64 0, .int .i64 0, .int .i64 0, .int .i64 0, .int .i64 0, .int .i64 0, .bool false, .bool false, .slice pe5 ne5 ce5, .slice pv5 nv5 cv5, .slice pd5 nd5 cd5] 26)
      have HB6 := hide (HB5.out.trans (b6.mono HB5.out.size))
      have hO6 := (HO3.out.below hb5).below b6
      obtain ⟨g', y', hgg, _, hy', hcell, hfr, hset⟩ := hO6.cellAt (j := 4 + J) HJN.out
      obtain rfl : g = g' := by injection hgg with hgg; injection hgg
      obtain rfl : y = y' := by
        have := HNE.out
        rw [hy'] at this
        injection this with this
        exact this.symm
      have hset' := hset (UInt8.ofNat (y.toNat ^^^ (1 + YY)))
      rw [← HX1'.out] at hset'
      have HSET := hide hset'
      have HB7 := hide (HB6.out.setCell (p := ⟨g, 4 + J, none⟩) (by show w.heap.size ≤ g; have := HBG.out; have := HS2.out; omega) (.int .u8 (bits BinOp.xor IntKind.u8 (y.toNat : Int) (1 + (YY : Int)))))
      have HGT := hide (get_any HSET.out.by_)
      rw [HGI.out] at HGT
      unfold PeekPost at HGT
      unfold msA ms0
      dsimp only
      clear hm5 hb5 b6 hO6 hgg hy' hset hset'
      go_wp2_with fail
      refine HGT.out.mono ?_
      rintro e w8 ⟨ue2, uv2, ud2, rfl, hm8, hb8⟩
      obtain ⟨pe8, ne8, ce8, rfl⟩ := hm8.es.ens.sl
      obtain ⟨pv8, nv8, cv8, rfl⟩ := hm8.vs.ns.sl
      obtain ⟨pd8, nd8, cd8, rfl⟩ := hm8.d.by_.sl
      have HB8 := hide (HB7.out.trans (hb8.mono HB7.out.size))
      have b9 := (Below.refl w8.heap.size w8).alloc (Nat.le_refl _) (.cells #[.int .i64 0, .int .i64 0, .int .i64 0, .int .i64 0, .int .i64 0, .int .i64 0, .int .i64 0, .int .i64 0, .bool false, .bool false, .slice pe8 ne8 ce8, .slice pv8 nv8 cv8, .slice pd8 nd8 cd8] 26)
      have HB9 := hide (HB8.out.trans (b9.mono HB8.out.size))
      have HX9 := hide (Box13.new w8 26 (.int .i64 0) (.int .i64 0) (.int .i64 0) (.int .i64 0) (.int .i64 0) (.int .i64 0) (.int .i64 0) (.int .i64 0) (.bool false) (.bool false) (.slice pe8 ne8 ce8) (.slice pv8 nv8 cv8) (.slice pd8 nd8 cd8))
      have HS9 := hide (sameM_any (hm8.v.below b9) ((MsO.zero w8.heap.size (w8.alloc (.cells #[.int .i64 0, .int .i64 0, .int .i64 0, .int .i64 0, .int .i64 0, .int .i64 0, .int .i64 0, .int .i64 0, .bool false, .bool false, .slice pe8 ne8 ce8, .slice pv8 nv8 cv8, .slice pd8 nd8 cd8] 26))).v))
      unfold msA ms0 at HS9
      try dsimp only at HS9
      unfold msA ms0
      dsimp only
      obtain ⟨y0, y1, y2, y3, y4, y5, y6, y7, y8, y9, y10, y11, y12⟩ := HX9.out
      clear hm8 hb8 b9 hcell hfr HSET HGT
      go_wp2_with fail
      refine HS9.out.mono ?_
      rintro e w10 ⟨rfl, hb10⟩
      have HB10 := hide (HB9.out.trans (hb10.mono HB9.out.size))
      clear hb10 y0 y1 y2 y3 y4 y5 y6 y7 y8 y9 y10 y11 y12
      go_wp2_with fail
      refine (HAW.out _).mono ?_
      rintro e w11 ⟨rfl, hb11⟩
      go_wp2
      go_ret
      exact ⟨rfl, HB10.out.trans (hb11.mono HB10.out.size)⟩
end Go.Proofs.Ytlmoiaeppehiiaa
/- A message's bytes, of which one behind the record's head is another one, are refused; so is a beginning of them. No condition. -/
namespace Go.Proofs.Ytlmoiaeppehiiaa.netTurned
open Go.ChangeShapes Go.WideShapes Go.ChangeAt Go.RowKit
open Go.ChangeMaps (open_string shut_string)
set_option linter.unusedVariables false

theorem own : ownKnob Try.prog.godebug = none := by kernel_rfl
theorem laidOut : laidOutB Try.prog = true := by kernel_rfl

set_option maxRecDepth 100000 in
theorem lifted (os : Os) (started : os.Started) (H : Type) (enc : TypeId × Value → H) :
    ReturnsInHanded {} Try.checked os 6 .any (Rows.netTurnedSpec.pre6 enc Try.prog Try.f6 Rows.netTurnedRow.domain false) (Rows.netTurnedSpec.post enc Try.prog Try.f6 false true false false) := by
  refine returnsInHanded_of_change_sized (C := Try.checked) own started (by kernel_rfl) Try.func6
    (ChangeSpec.witness6 (enc := enc) (C := Try.checked) false ⟨#[], #[.agg #[.int .i64 0, .int .i64 0, .int .i64 0, .int .i64 0, .int .i64 0, .int .i64 0, .int .i64 0, .int .i64 0, .bool false, .bool false, .slice none 0 0, .slice none 0 0, .slice none 0 0], .int .i64 0, .int .i64 0], []⟩ 8 (by kernel_rfl) (by kernel_rfl) (by kernel_rfl) (by kernel_rfl)) ?_
  intro W base args ds gs before hval0 hW hcnd hsz0 _
  have hval : ∀ (j : Nat) t v, Try.f6.params[j]? = some t → args[j]? = some v → Value.okWide Try.prog W .any base t v := hval0
  have hsz : (DataW.weightsEach Try.prog (Try.f6.params.toList ++ Rows.netTurnedSpec.plain.varTypes Try.prog) (ds ++ gs)).all (· ≤ reachBytes) = true := hsz0
  have hW' := hW
  obtain ⟨p, q, hA0, hV, rfl, hfz, hnd⟩ := hW
  have hA : DataW.TrodAll enc Try.prog W 0 (fun _ => true) true Try.f6.params.toList args.toList ds p := hA0
  rw [Try.params6] at hA hval hsz
  obtain ⟨v0, vs0, d0, ds0, p0, q0, hargs, rfl, rfl, h0, r0⟩ := trodAll_cons hA
  obtain ⟨v1, vs1, d1, ds1, p1, q1, rfl, rfl, rfl, h1, r1⟩ := trodAll_cons r0
  obtain ⟨v2, vs2, d2, ds2, p2, q2, rfl, rfl, rfl, h2, r2⟩ := trodAll_cons r1
  obtain ⟨rfl, rfl, rfl⟩ := trodAll_nil r2
  obtain rfl : args = #[v0, v1, v2] := by cases args; simp_all
  obtain ⟨rfl, rfl⟩ := trodVars_none hV
  have k0 := h0
  have lt0 : ∀ x ∈ p0, x.block < W.heap.size := by obtain ⟨m, hm⟩ := k0; exact DataW.trod_lt m _ _ _ hm
  obtain ⟨a1, rfl, rfl, rfl, w1⟩ := open_int Try.underlying3 (hval 1 3 v1 rfl rfl) h1
  obtain ⟨a2, rfl, rfl, rfl, w2⟩ := open_int Try.underlying3 (hval 2 3 v2 rfl rfl) h2
  obtain ⟨m0, ve0, vv0, vd0, hv0, hM0⟩ := msg_of_arg (hval 0 26 v0 rfl rfl) h0
  obtain rfl := hv0
  clear hA0 hval0
  refine (lawTurned_any hM0 a1 a2).mono fun e W' ⟨he, bel⟩ => ?_
  subst he
  exact ⟨_, rfl, _, _, _, [], _, [], hW', trodAll_mk1 (shut_bool Try.underlying4 _), (trodAll_cons_mk (Below.trod laidOut (by kernel_rfl) (of_decide_eq_true (by kernel_rfl)) k0 bel lt0) (trodAll_cons_mk (shut_int Try.underlying3 w1) (trodAll_cons_mk (shut_int Try.underlying3 w2) trodAll_mk0))), rfl, bel.frame _, fun h => by cases h⟩

theorem over : Rows.netTurnedRow.holds Try.pinned (OpenSpec.ofChange Rows.netTurnedSpec) :=
  OpenClaim.holds_of_wide 6 Try.f6 rfl rfl rfl rfl rfl rfl rfl ⟨rfl, rfl, rfl, rfl, rfl⟩ rfl rfl rfl rfl rfl (by kernel_rfl) Try.func6 (by kernel_rfl)
    (of_decide_eq_true (by kernel_rfl)) (by unfold Func.isWrapper; first | (rw [if_pos (by decide +kernel)]; kernel_rfl) | (rw [if_neg (by decide +kernel)]; exact ⟨rfl, rfl⟩))
    (fun os started H enc _ => lifted os started H enc)

theorem proved : Rows.NetTurnedSaid := over
end Go.Proofs.Ytlmoiaeppehiiaa.netTurned
