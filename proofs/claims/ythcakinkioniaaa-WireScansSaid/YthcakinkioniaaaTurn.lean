/- A record of which one byte is another one has another sum: plainly. -/
import Derived.Test.YthcakinkioniaaaLawRecs
import Derived.BigGuard
namespace Go.Proofs.Ythcakinkioniaaa

theorem xor_cancel {a b k : Nat} (h : a ^^^ k = b ^^^ k) : a = b := by
  have := congrArg (· ^^^ k) h
  simpa [Nat.xor_assoc] using this

theorem xor_cancel_left {a b k : Nat} (h : k ^^^ a = k ^^^ b) : a = b := xor_cancel (k := k) (by rw [Nat.xor_comm a k, Nat.xor_comm b k]; exact h)

theorem step1_inj {a b : Nat} (ha : a < 4294967296) (hb : b < 4294967296) (h : step1 a = step1 b) : a = b := by
  have odd : ∀ c : Nat, ((2 * c) ^^^ 79764919) % 2 = 1 := fun c => by
    simp
  have e : ∀ c : Nat, ¬ c < 2147483648 → 2 * c - 4294967296 = 2 * (c - 2147483648) := fun c hc => by omega
  unfold step1 at h
  by_cases h1 : a < 2147483648 <;> by_cases h2 : b < 2147483648
  · rw [if_pos h1, if_pos h2] at h
    omega
  · rw [if_pos h1, if_neg h2, e b h2] at h
    have := odd (b - 2147483648)
    omega
  · rw [if_neg h1, if_pos h2, e a h1] at h
    have := odd (a - 2147483648)
    omega
  · rw [if_neg h1, if_neg h2] at h
    have := xor_cancel h
    omega

theorem it_inj {a b : Nat} (ha : a < 4294967296) (hb : b < 4294967296) : ∀ k, it k a = it k b → a = b
  | 0, h => h
  | k + 1, h => it_inj ha hb k (step1_inj (it_lt ha k) (it_lt hb k) h)

theorem stepB_inj {a b : Nat} (ha : a < 4294967296) (hb : b < 4294967296) {x : UInt8} (h : stepB a x = stepB b x) : a = b :=
  xor_cancel (it_inj (start_lt ha x) (start_lt hb x) 8 h)

theorem stepB_byte {a : Nat} (ha : a < 4294967296) {x y : UInt8} (h : stepB a x = stepB a y) : x = y := by
  have := xor_cancel_left (it_inj (start_lt ha x) (start_lt ha y) 8 h)
  exact UInt8.toNat_inj.1 (by omega)

theorem crcF_inj : ∀ (l : List UInt8) {a b : Nat}, a < 4294967296 → b < 4294967296 → crcF a l = crcF b l → a = b
  | [], _, _, _, _, h => h
  | x :: l, a, b, ha, hb, h => by
    rw [crcF_cons, crcF_cons] at h
    exact stepB_inj ha hb (crcF_inj l (stepB_lt ha x) (stepB_lt hb x) h)

theorem crc_turned (A B : List UInt8) {x y : UInt8} (hxy : x ≠ y) : crc (A ++ x :: B) ≠ crc (A ++ y :: B) := by
  intro h
  unfold crc at h
  rw [crcF_append, crcF_append, crcF_cons, crcF_cons] at h
  have hA : crcF 4294967295 A < 4294967296 := crc_lt A
  exact hxy (stepB_byte hA (crcF_inj B (stepB_lt hA x) (stepB_lt hA y) h))

theorem tailL_inj {a b : Nat} (ha : a < 4294967296) (hb : b < 4294967296) (h : tailL a = tailL b) : a = b := by
  unfold tailL at h
  simp only [List.cons.injEq, and_true] at h
  obtain ⟨h0, h1, h2, h3⟩ := h
  have f : ∀ {u v : Nat}, u < 256 → v < 256 → UInt8.ofNat u = UInt8.ofNat v → u = v := fun hu hv e => by
    have := congrArg UInt8.toNat e
    rwa [ofNat_toNat hu, ofNat_toNat hv] at this
  have g0 := f (by omega) (by omega) h0
  have g1 := f (by omega) (by omega) h1
  have g2 := f (by omega) (by omega) h2
  have g3 := f (by omega) (by omega) h3
  omega

/-- A head with a payload's length, as many bytes, and a tail: what is picked. -/
theorem pick_form (p t : List UInt8) (hp : p.length ≤ 65536) (ht : t.length = 4) (hne : t ≠ tailL (crc (front p))) : pickL (front p ++ t) = ([], 0, 11) := by
  have hd := digits_length p.length (by omega)
  have e0 : front p ++ t = (93 : UInt8) :: (digits p.length ++ (p ++ t)) := by
    unfold front
    simp
  have hfl := front_length p
  have eT : ((93 : UInt8) :: (digits p.length ++ (p ++ t))).take (1 + (digits p.length).length + p.length) = front p := by
    rw [← e0, ← hfl, List.take_left]
  have eD : (((93 : UInt8) :: (digits p.length ++ (p ++ t))).drop (1 + (digits p.length).length + p.length)).take 4 = t := by
    rw [← e0, ← hfl, List.drop_left, ← ht, List.take_length]
  have hlen : ((93 : UInt8) :: (digits p.length ++ (p ++ t))).length = (front p).length + 4 := by
    rw [← e0, List.length_append, ht]
  rw [e0, pickL_cons, if_neg (by decide), readNum_digits (show p.length < 9223372036854775808 by omega)]
  dsimp only
  unfold pickB
  rw [if_neg (by simp), if_neg (by omega), if_neg (by rw [hlen]; omega), eT, eD, if_neg hne]

theorem set_split {l : List UInt8} {i : Nat} {x : UInt8} (h : i < l.length) : ∃ A B, l = A ++ l[i] :: B ∧ l.set i x = A ++ x :: B := by
  refine ⟨l.take i, l.drop (i + 1), ?_, ?_⟩
  · rw [List.getElem_cons_drop, List.take_append_drop]
  · exact List.set_eq_take_append_cons_drop ▸ (by simp [h])

/-- One byte of the payload or of the sum is another one. -/
theorem pick_turned (p : List UInt8) (hp : p.length ≤ 65536) (j : Nat) (hj1 : (recL p).length - (p.length + 4) ≤ j) (hj : j < (recL p).length) (x : UInt8) (hx : (recL p)[j]? ≠ some x) : pickL ((recL p).set j x) = ([], 0, 11) := by
  have hfl := front_length p
  have hrl : (recL p).length = (front p).length + 4 := by unfold recL; rw [List.length_append, tailL_length]
  by_cases hjf : j < (front p).length
  · have hset : (recL p).set j x = (front p).set j x ++ tailL (crc (front p)) := by
      unfold recL
      rw [List.set_append_left _ _ hjf]
    have hge : (recL p)[j]? = (front p)[j]? := by
      unfold recL
      rw [List.getElem?_append_left hjf]
    rw [hge, List.getElem?_eq_getElem hjf] at hx
    let i := j - (1 + (digits p.length).length)
    have hi : i < p.length := by omega
    have hfp : (front p).set j x = front (p.set i x) := by
      unfold front
      rw [List.length_set, List.set_append_right _ _ (by simp; omega)]
      congr 2
      simp only [List.length_cons]
      omega
    rw [hset, hfp]
    refine pick_form _ _ (by rw [List.length_set]; exact hp) (tailL_length _) ?_
    intro h
    have h2 := tailL_inj (crc_lt _) (crc_lt _) h
    rw [← hfp] at h2
    obtain ⟨A, B, e1, e2⟩ := set_split (x := x) hjf
    rw [e2] at h2
    rw [show crc (front p) = crc (A ++ (front p)[j] :: B) by rw [← e1]] at h2
    exact crc_turned A B (fun h => hx (by rw [h])) h2
  · have hset : (recL p).set j x = front p ++ (tailL (crc (front p))).set (j - (front p).length) x := by
      unfold recL
      rw [List.set_append_right _ _ (by omega)]
    have hge : (recL p)[j]? = (tailL (crc (front p)))[j - (front p).length]? := by
      unfold recL
      rw [List.getElem?_append_right (by omega)]
    rw [hset]
    refine pick_form _ _ hp (by rw [List.length_set]; exact tailL_length _) ?_
    intro h
    rw [hge, ← h, List.getElem?_set_self (by rw [tailL_length]; omega)] at hx
    exact hx rfl

open Go.RowKit

/-- A byte of an owned slice, and what is owned behind a store there. -/
theorem Own.cellAt {B : Nat} {w : World} {p : Option Addr} {n c : Nat} {l : List UInt8} (h : Own B w (.slice p n c) l) {j : Nat} (hj : j < n) :
    ∃ (g : Nat) (y : UInt8), p = some ⟨g, 0, none⟩ ∧ B ≤ g ∧ l[j]? = some y ∧ w.cell? ⟨g, j, none⟩ = some (.int .u8 (y.toNat : Int)) ∧ w.frozen? ⟨g, j, none⟩ = false ∧
      ∀ u : UInt8, Own B (w.setCell ⟨g, j, none⟩ (.int .u8 (u.toNat : Int))) (.slice p n c) (l.set j u) := by
  rcases h with ⟨e, rfl⟩ | ⟨g, cap, e, hB, hl, hm, hc, hs, hf⟩
  · injection e with _ e2 _
    omega
  · injection e with e1 e2 e3
    subst e1 e3
    have hjl : j < l.length := by omega
    have hcj := hc j _ (List.getElem?_eq_getElem hjl)
    refine ⟨g, l[j], rfl, hB, List.getElem?_eq_getElem hjl, hcj, hf j (by omega), fun u => .inr ⟨g, c, by rw [List.length_set, e2], hB, by rw [List.length_set]; exact hl, hm, fun i x hx => ?_, fun i hi => ?_, fun i hi => ?_⟩⟩
    · by_cases hij : i = j
      · subst hij
        rw [List.getElem?_set_self hjl] at hx
        injection hx with hx
        subst hx
        rw [World.cell?_setCell_same (h := hcj)]
        rfl
      · rw [List.getElem?_set_ne (by omega)] at hx
        rw [World.cell?_setCell_other _ _ _ _ (by intro h; injection h with _ h; omega)]
        exact hc i x hx
    · by_cases hij : i = j
      · subst hij
        rw [World.cell?_setCell_same (h := hcj)]
        rfl
      · rw [World.cell?_setCell_other _ _ _ _ (by intro h; injection h with _ h; omega)]
        exact hs i hi
    · rw [World.frozen?_setCell]
      exact hf i hi

theorem mod_nat (a : Int) (m : Nat) (hm : 0 < m) : ∃ I : Nat, I < m ∧ (IntKind.u64.wrap a).tmod (m : Int) = (I : Int) ∧ IntKind.u64.wrap a % (m : Int) = (I : Int) := by
  have h0 := wrap_u64_nonneg a
  obtain ⟨U, hU⟩ := Int.eq_ofNat_of_zero_le h0
  rw [hU]
  refine ⟨U % m, Nat.mod_lt _ hm, ?_, ?_⟩
  · rw [Int.tmod_eq_emod_of_nonneg (by omega)]
    simp
  · simp

theorem xor_ne (b : UInt8) (Y : Nat) (hY : Y < 255) : bits BinOp.xor IntKind.u8 (b.toNat : Int) (1 + (Y : Int)) = ((UInt8.ofNat (b.toNat ^^^ (1 + Y))).toNat : Int) ∧ UInt8.ofNat (b.toNat ^^^ (1 + Y)) ≠ b := by
  have hb := b.toNat_lt
  have hx : b.toNat ^^^ (1 + Y) < 256 := Nat.xor_lt_two_pow (n := 8) (by omega) (by omega)
  have h1 := u8_xor_nat b.toNat (1 + Y) (by omega) (by omega)
  have e : ((1 + Y : Nat) : Int) = 1 + (Y : Int) := by omega
  rw [e] at h1
  refine ⟨by rw [h1, ofNat_toNat hx], fun h => ?_⟩
  have h2 := congrArg UInt8.toNat h
  rw [ofNat_toNat hx] at h2
  have h3 : b.toNat ^^^ (1 + Y) = b.toNat ^^^ 0 := by rw [h2, Nat.xor_zero]
  have := xor_cancel_left h3
  omega

set_option maxRecDepth 200000 in
set_option maxHeartbeats 2000000 in
theorem turned_law (a0 : Option Addr) (len0 cap0 : Nat) (l : List UInt8) (hl : l.length = len0) (at_ x : Int) (w : World) (hv : By w (.slice a0 len0 cap0) l) :
    Calls Try.prog 12 #[.slice a0 len0 cap0, .int .i64 at_, .int .i64 x] w fun e w' => e = .returned (.bool true) ∧ Below w.heap.size w w' := by
  have hmm := hv.lenMax
  by_cases hb : (65536 : Int) < (len0 : Int)
  · have hR : recP l = ([], 4) := by unfold recP; rw [if_neg (by omega)]
    have HV := hide hv
    clear hv
    go_enter Try.func12, Try.ntmps12
    go_wp2_with fail
    refine (wireRecord_post HV.out hR).mono ?_
    rintro e w1 ⟨v1, rfl, ho1, hb1⟩
    go_wp2
    go_ret
    exact ⟨rfl, hb1⟩
  · have hp : l.length ≤ 65536 := by omega
    have hR : recP l = (recL l, 0) := by unfold recP; rw [if_pos hp]
    have hrl : (recL l).length = 1 + (digits l.length).length + l.length + 4 := by unfold recL; rw [List.length_append, tailL_length, front_length]
    have hd1 := digits_pos l.length
    have hd9 := digits_length l.length (by omega)
    have HV := hide hv
    have HL := hide hl
    clear hv
    go_enter Try.func12, Try.ntmps12
    go_wp2_with fail
    refine (wireRecord_post HV.out hR).mono ?_
    rintro e w1 ⟨v1, rfl, ho1, hb1⟩
    obtain ⟨p1, n1, c1, rfl⟩ := ho1.by_.sl
    have hn1 := ho1.by_.len.1
    have hn1' : n1 = 1 + (digits l.length).length + l.length + 4 := by rw [hn1, hrl]
    have hge : ¬ (n1 : Int) < (len0 : Int) + 6 := by omega
    have hn1u : (n1 : Int) ≤ 65550 := by omega
    have hbs1 := hb1.size
    have H1 := hide ho1
    have HN1 := hide hn1'
    clear ho1 hn1 hn1' hrl hd1 hd9 hp hR
    go_wp2_with fail
    refine (sclone_any H1.out.by_ (by have := H1.out.by_.len.1; omega)).mono ?_
    rintro e w2 ⟨v2, rfl, ho2, hb2⟩
    obtain ⟨p2, n2, c2, rfl⟩ := ho2.by_.sl
    have hn2 : n2 = n1 := by rw [ho2.by_.len.1, H1.out.by_.len.1]
    subst hn2
    obtain ⟨I, hI, hI1, hI2⟩ := mod_nat at_ (len0 + 4) (by omega)
    obtain ⟨Y, hY, hY1, hY2⟩ := mod_nat x 255 (by omega)
    have e4 : ((len0 + 4 : Nat) : Int) = (len0 : Int) + 4 := by omega
    rw [e4] at hI1 hI2
    have e5 : ((255 : Nat) : Int) = 255 := rfl
    rw [e5] at hY1 hY2
    have hIb : (I : Int) < (len0 : Int) + 4 := by omega
    have hYb : (Y : Int) < 255 := by omega
    obtain ⟨g, y, rfl, hBg, hy, hcell, hfr, hset⟩ := ho2.cellAt (j := n2 - 1 - I) (by omega)
    obtain ⟨hx1, hx2⟩ := xor_ne y Y hY
    have hb12 := hb2
    have hset' := hset (UInt8.ofNat (y.toNat ^^^ (1 + Y)))
    rw [← hx1] at hset'
    have hpick := pick_turned l (by omega) (n2 - 1 - I) (by have := ho2.by_.len.1; omega) (by have := ho2.by_.len.1; omega) (UInt8.ofNat (y.toNat ^^^ (1 + Y))) (by rw [hy]; intro h; injection h with h; exact hx2 h.symm)
    have hb03 : Below w.heap.size w (w2.setCell ⟨g, n2 - 1 - I, none⟩ (.int .u8 (bits BinOp.xor IntKind.u8 (y.toNat : Int) (1 + (Y : Int))))) := (hb1.trans (hb2.mono hbs1)).setCell (p := ⟨g, n2 - 1 - I, none⟩) (by show w.heap.size ≤ g; omega) _
    have HB03 := hide hb03
    have HSET := hide hset'
    have HP := hide hpick
    clear hx1 hx2 hset hset' hy hpick ho2 hb2 hb12 hb03 e4 e5 hl
    go_wp2_with fail
    refine (wirePick_any HSET.out.by_ HP.out).mono ?_
    rintro e w4 ⟨v4, rfl, ho4, hb4⟩
    obtain ⟨p4, n4, c4, rfl⟩ := ho4.by_.sl
    obtain rfl : n4 = 0 := ho4.by_.len.1
    have HE := hide (HB03.out.trans (hb4.mono HB03.out.size))
    clear hcell hfr HSET HB03 HP ho4 hb4
    go_wp2
    go_ret
    exact ⟨rfl, HE.out⟩
end Go.Proofs.Ythcakinkioniaaa
