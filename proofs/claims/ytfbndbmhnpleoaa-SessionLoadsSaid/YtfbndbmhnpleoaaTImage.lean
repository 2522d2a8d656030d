/- A session's bytes, and a table's. -/
import Derived.Test.YtfbndbmhnpleoaaTSeats2
import Derived.Test.YtfbndbmhnpleoaaScan
namespace Go.Proofs.Ytfbndbmhnpleoaa
set_option linter.unusedVariables false
set_option linter.unusedSimpArgs false
open Go.RowKit

/-- Numbers' bytes. -/
def numsB (l : List Int) : List UInt8 := l.flatMap fun n => digits n.toNat
def bytesT (x : St) : List UInt8 := numsB x.nums
def imgT (L : List St) : List UInt8 := digits L.length ++ L.flatMap bytesT
theorem numsB_take {l : List Int} {k : Nat} {n : Int} (h : l[k]? = some n) : numsB (l.take (k + 1)) = numsB (l.take k) ++ digits n.toNat := by
  unfold numsB
  rw [List.take_add_one, h, List.flatMap_append]
  simp
theorem numsB_len (l : List Int) (h : ∀ n ∈ l, n40 n = true) : (numsB l).length ≤ l.length * 9 := by
  induction l with
  | nil => simp [numsB]
  | cons x r ih =>
    have h1 := digits_length x.toNat (by have := n40_iff.1 (h x (List.mem_cons_self ..)); omega)
    have h2 := ih fun n hn => h n (List.mem_cons_of_mem _ hn)
    unfold numsB at h2 ⊢
    rw [List.flatMap_cons, List.length_append, List.length_cons]
    omega
theorem bytesT_len {x : St} (h : x.ok = true) : (bytesT x).length ≤ 99 := by
  have h2 : x.tell = true := by unfold St.ok at h; simp at h; exact h.2
  exact numsB_len x.nums fun n hn => List.all_eq_true.1 h2 n hn
theorem imgs_len {L : List St} (h : ∀ x ∈ L, x.ok = true) : (L.flatMap bytesT).length ≤ L.length * 99 := by
  induction L with
  | nil => simp
  | cons x r ih =>
    have h1 := bytesT_len (h x (List.mem_cons_self ..))
    have h2 := ih fun n hn => h n (List.mem_cons_of_mem _ hn)
    rw [List.flatMap_cons, List.length_append, List.length_cons]
    omega
theorem imgT_len {L : List St} (h : TbOk L) : (imgT L).length ≤ 1000 := by
  have h1 := imgs_len h.ok
  have h2 := digits_length L.length (by have := h.len; omega)
  have := h.len
  unfold imgT
  rw [List.length_append]
  omega

/-- What a call that gives bytes says. -/
def BytesPost (w : World) (l : List UInt8) (e : Ending) (w' : World) : Prop := ∃ v, e = .returned v ∧ Own w.heap.size w' v l ∧ Below w.heap.size w w'

set_option maxRecDepth 200000 in
set_option maxHeartbeats 2000000 in
theorem bytesOf_any (w : World) {x : St} (hok : x.ok = true) : Calls Try.prog 35 #[stV x] w (BytesPost w (bytesT x)) := by
  have HN := fun w => numbers_any w x
  obtain ⟨l, hl⟩ : ∃ l, x.nums = l := ⟨_, rfl⟩
  have hll : l.length = 11 := by rw [← hl]; rfl
  have HA : Hid (∀ n ∈ l, n40 n = true) := hide (by
    have h2 : x.tell = true := by unfold St.ok at hok; simp at hok; exact hok.2
    rw [← hl]
    exact fun n hn => List.all_eq_true.1 h2 n hn)
  have HB : Hid (bytesT x = numsB l) := hide (by rw [← hl]; rfl)
  rw [hl] at HN
  obtain ⟨bt, hbt⟩ : ∃ bt, bytesT x = bt := ⟨_, rfl⟩
  rw [hbt] at HB ⊢
  clear hl hbt hok
  obtain ⟨s, q, a, ⟨e1, e2, e3, e4, e5, e6, e7, e8⟩⟩ := x
  unfold stV at *
  dsimp only at *
  have HL := hide hll
  clear hll
  go_enter Try.func35, Try.ntmps35
  go_wp2_with fail
  refine (HN _).mono ?_
  rintro e w1 ⟨g, rfl, hn, hg, hb⟩
  have HG := hide (((Below.refl w.heap.size w).alloc (Nat.le_refl _) _).trans (hb.mono (by simp)))
  have HNN := hide hn
  clear hb hg hn
  go_wp2
  go_loopw [3, 9] (fun v i wr => ∃ k : Nat, k ≤ 11 ∧ i = .int .i64 k ∧ (∃ p n c, v = .slice p n c) ∧ Hid (Own w1.heap.size wr v (numsB (l.take k)) ∧ Below w1.heap.size w1 wr)) (fun _ i _ => 11 - (intOf i).toNat)
  case atStart => exact ⟨0, by omega, rfl, ⟨_, _, _, rfl⟩, hide ⟨Own.nil _ _, Below.refl _ _⟩⟩
  case round =>
    obtain ⟨k, hk, rfl, ⟨p3, n3, c3, rfl⟩, HR⟩ := hrel
    by_cases hlt : k < 11
    · have hlt' : k < l.length := by have := HL.out; omega
      obtain ⟨n, hn'⟩ : ∃ n, l[k]? = some n := ⟨_, List.getElem?_eq_getElem hlt'⟩
      have hc1 := HNN.out k n hn'
      have hc := (HR.out.2.cell (lt_of_cell hc1)).trans hc1
      have HT := hide (numsB_take hn')
      have hn40 := n40_iff.1 (HA.out n (List.mem_of_getElem? hn'))
      have hlen : (numsB (l.take k)).length ≤ 140737488000000 := by
        have := numsB_len (l.take k) fun n hn => HA.out n (List.mem_of_mem_take hn)
        rw [List.length_take] at this
        omega
      have hwn := hide (wireNumber_any HR.out.1.by_ hlen n n.toNat (by omega) (by unfold lim; omega))
      clear hn' hlt' hc1 hlen hn40
      go_wp2_with fail
      refine hwn.out.mono ?_
      rintro e w5 ⟨v5, rfl, ho5, hb5⟩
      obtain ⟨p5, n5, c5, rfl⟩ := ho5.by_.sl
      have HO5 := hide (ho5.mono HR.out.2.size)
      have HB5 := hide (HR.out.2.trans (hb5.mono HR.out.2.size))
      clear ho5 hb5 hwn
      go_wp2
      go_roundw
      case rel => exact ⟨k + 1, by omega, by go_num, ⟨_, _, _, rfl⟩, hide ⟨by rw [HT.out]; exact HO5.out, HB5.out⟩⟩
      case measure => simp [intOf]; omega
    · go_wp2
      go_ret
      have e : l.take k = l := List.take_of_length_le (by have := HL.out; omega)
      have ho := HR.out.1
      rw [e, ← HB.out] at ho
      exact ⟨_, rfl, ho.mono HG.out.size, HG.out.trans (HR.out.2.mono HG.out.size)⟩

theorem img_take {L : List St} {k : Nat} {x : St} (h : L[k]? = some x) (m : List UInt8) : m ++ (L.take (k + 1)).flatMap bytesT = (m ++ (L.take k).flatMap bytesT) ++ bytesT x := by
  rw [List.take_add_one, h, List.flatMap_append, List.append_assoc]
  simp
set_option maxRecDepth 200000 in
set_option maxHeartbeats 2000000 in
theorem image_any {w : World} {g b : Nat} {L : List St} (h : TbIs w g b L) : Calls Try.prog 20 #[.pointer (some ⟨g, 0, none⟩)] w (BytesPost w (imgT L)) := by
  have HM := hide (made_any h.c0)
  have HH := hide h
  have hL8 := h.ok.len
  have HRI := hide h.ok
  clear h
  go_enter Try.func20, Try.ntmps20
  go_wp2_with fail
  refine HM.out.mono ?_
  rintro e X ⟨rfl, hcX⟩
  have hX := HH.out.chg hcX (fun e => e) (fun e => e)
  have c0 := hX.c0
  obtain ⟨D, hD⟩ := hX.map
  have hlen := hD.map.len Try.underlying54 3
  rw [hD.rd.size] at hlen
  have HX := hide hX
  have HCX := hide (Chg.to_below (Below.refl _ _) hcX (fun k e => e.elim))
  clear hX hD hcX
  have hwn := hide (wireNumber_any (By.nil X) (by simp) (L.length : Int) L.length (by omega) (by unfold lim; omega))
  go_wp2_with fail
  refine hwn.out.mono ?_
  rintro e w2 ⟨v2, rfl, ho2, hb2⟩
  obtain ⟨p2, n2, c2, rfl⟩ := ho2.by_.sl
  have HO2 : Hid (Own X.heap.size w2 (.slice p2 n2 c2) (digits L.length)) := hide (by simpa using ho2)
  have HT2 := hide (HX.out.below hb2)
  have HB2 := hide (HCX.out.trans (hb2.mono HCX.out.size))
  have HXS2 := hide hb2.size
  clear ho2 hb2 hwn
  go_wp2_with fail
  refine (seats_any HT2.out).mono ?_
  rintro e w3 ⟨v3, rfl, ho3, hb3⟩
  obtain ⟨p3, n3, c3, rfl⟩ := ho3.sts.sl
  obtain rfl : n3 = L.length := ho3.sts.len.1
  have HO3 := hide ho3
  have HB3 := hide (HB2.out.trans (hb3.mono HB2.out.size))
  have HO2' := hide (HO2.out.below hb3)
  have HXS := hide (Nat.le_trans HXS2.out hb3.size)
  clear ho3 hb3
  go_wp2
  go_loopw [3, 18] (fun v i wr => ∃ k : Nat, k ≤ L.length ∧ i = .int .i64 k ∧ (∃ p n c, v = .slice p n c) ∧ Hid (Own X.heap.size wr v (digits L.length ++ (L.take k).flatMap bytesT) ∧ Below w3.heap.size w3 wr)) (fun _ i _ => L.length - (intOf i).toNat)
  case atStart => exact ⟨0, by omega, rfl, ⟨_, _, _, rfl⟩, hide ⟨by simpa using HO2'.out, Below.refl _ _⟩⟩
  case round =>
    obtain ⟨k, hk, rfl, ⟨p4, n4, c4, rfl⟩, HR⟩ := hrel
    by_cases hlt : k < L.length
    · obtain ⟨y, hy⟩ : ∃ y, L[k]? = some y := ⟨_, List.getElem?_eq_getElem hlt⟩
      obtain ⟨gd, o, rfl, hc⟩ := HO3.out.sts.at_ (by omega)
      have hd := (hc k y hy).below HR.out.2
      have d0 := hd.c0
      have d1 := hd.c1
      have d2 := hd.c2
      have d3 := hd.c3
      have d4 := hd.c4
      have d5 := hd.c5
      have d6 := hd.c6
      have d7 := hd.c7
      have d8 := hd.c8
      have d9 := hd.c9
      have d10 := hd.c10
      have hym : y ∈ L := List.mem_of_getElem? hy
      have hyo := HRI.out.ok y hym
      have HTK := hide (img_take hy (digits L.length))
      have hblen := bytesT_len hyo
      have hlen4 : (digits L.length ++ (L.take k).flatMap bytesT).length ≤ 1000 := by
        have h1 := imgs_len (L := L.take k) fun x hx => HRI.out.ok x (List.mem_of_mem_take hx)
        have h2 := digits_length L.length (by omega)
        rw [List.length_append]
        rw [List.length_take] at h1
        omega
      have HBO := hide (fun w => bytesOf_any w hyo)
      obtain ⟨m4, hm4⟩ : ∃ m4, digits L.length ++ (L.take k).flatMap bytesT = m4 := ⟨_, rfl⟩
      obtain ⟨by_, hby_⟩ : ∃ by_, bytesT y = by_ := ⟨_, rfl⟩
      rw [hm4] at HTK hlen4 HR
      rw [hby_] at HTK hblen HBO
      have HLN := hide (And.intro hlen4 hblen)
      clear hd hc hy hym hyo hm4 hby_ hlen4 hblen
      obtain ⟨s, q, a, ⟨e1, e2, e3, e4, e5, e6, e7, e8⟩⟩ := y
      unfold stV at HBO
      dsimp only at *
      obtain ⟨Y, hY⟩ : ∃ Y, wr.alloc (.cells #[.int .i64 s, .int .i64 q, .int .i64 a, .int .i64 e1, .int .i64 e2, .int .i64 e3, .int .i64 e4, .int .i64 e5, .int .i64 e6, .int .i64 e7, .int .i64 e8] 51) = Y := ⟨_, rfl⟩
      have hbY : Below wr.heap.size wr Y := by rw [← hY]; exact (Below.refl _ _).alloc (Nat.le_refl _) _
      have hcY : ∀ i v, #[Value.int .i64 s, .int .i64 q, .int .i64 a, .int .i64 e1, .int .i64 e2, .int .i64 e3, .int .i64 e4, .int .i64 e5, .int .i64 e6, .int .i64 e7, .int .i64 e8][i]? = some v → Y.cell? ⟨wr.heap.size, i, none⟩ = some v := fun i v hi => by rw [← hY, World.cell?_alloc_new]; exact hi
      have y0 : Y.cell? ⟨wr.heap.size, 0, none⟩ = some (.int .i64 s) := hcY 0 _ rfl
      have y1 : Y.cell? ⟨wr.heap.size, 1, none⟩ = some (.int .i64 q) := hcY 1 _ rfl
      have y2 : Y.cell? ⟨wr.heap.size, 2, none⟩ = some (.int .i64 a) := hcY 2 _ rfl
      have y3 : Y.cell? ⟨wr.heap.size, 3, none⟩ = some (.int .i64 e1) := hcY 3 _ rfl
      have y4 : Y.cell? ⟨wr.heap.size, 4, none⟩ = some (.int .i64 e2) := hcY 4 _ rfl
      have y5 : Y.cell? ⟨wr.heap.size, 5, none⟩ = some (.int .i64 e3) := hcY 5 _ rfl
      have y6 : Y.cell? ⟨wr.heap.size, 6, none⟩ = some (.int .i64 e4) := hcY 6 _ rfl
      have y7 : Y.cell? ⟨wr.heap.size, 7, none⟩ = some (.int .i64 e5) := hcY 7 _ rfl
      have y8 : Y.cell? ⟨wr.heap.size, 8, none⟩ = some (.int .i64 e6) := hcY 8 _ rfl
      have y9 : Y.cell? ⟨wr.heap.size, 9, none⟩ = some (.int .i64 e7) := hcY 9 _ rfl
      have y10 : Y.cell? ⟨wr.heap.size, 10, none⟩ = some (.int .i64 e8) := hcY 10 _ rfl
      have HOY := hide (And.intro (HR.out.1.below hbY) (HR.out.2.trans (hbY.mono HR.out.2.size)))
      clear hcY hbY
      go_wp2_with fail
      refine (HBO.out _).mono ?_
      rintro e w5 ⟨v5, rfl, ho5, hb5⟩
      obtain ⟨p7, n7, c7, rfl⟩ := ho5.by_.sl
      have HP := hide (two_parts (HOY.out.1.below hb5).by_ ho5.by_)
      have HB5 := hide (HOY.out.2.trans (hb5.mono HOY.out.2.size))
      have hj := hide (join_any HP.out (by have := HLN.out; simp [Lib.lens]; omega) (by simp))
      clear ho5 hb5
      go_wp2_with fail
      refine hj.out.mono ?_
      rintro e w6 ⟨v6, rfl, ho6, hb6⟩
      obtain ⟨p6, n6, c6, rfl⟩ := ho6.by_.sl
      have HB6 := hide ((HB5.out.alloc HB5.out.size (.cells #[.slice p4 n4 c4, .slice p7 n7 c7] 22)).trans (hb6.mono (by have := HB5.out.size; simp; omega)))
      have HO6 : Hid (Own X.heap.size w6 (.slice p6 n6 c6) (m4 ++ by_)) := hide (by
        have := ho6.mono (B' := X.heap.size) (by have := HB5.out.size; have := HXS.out; simp; omega)
        simpa using this)
      clear ho6 hb6 hj
      go_wp2
      go_roundw
      case rel => exact ⟨k + 1, by omega, by go_num, ⟨_, _, _, rfl⟩, hide ⟨by rw [HTK.out]; exact HO6.out, HB6.out⟩⟩
      case measure => simp [intOf]; omega
    · go_wp2
      go_ret
      have e : L.take k = L := List.take_of_length_le (by omega)
      have ho := HR.out.1
      rw [e] at ho
      exact ⟨_, rfl, ho.mono HCX.out.size, HB3.out.trans (HR.out.2.mono HB3.out.size)⟩
end Go.Proofs.Ytfbndbmhnpleoaa
