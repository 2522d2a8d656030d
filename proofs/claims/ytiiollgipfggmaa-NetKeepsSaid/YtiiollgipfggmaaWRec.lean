/- A payload's record, by the program and by the document. -/
import Derived.Test.YtiiollgipfggmaaWSum
import Derived.Laws.ResultCell
namespace Go.Proofs.Ytiiollgipfggmaa
set_option linter.unusedVariables false
set_option linter.unusedSimpArgs false
open Go.RowKit

/-- A sum's bytes. -/
def tailL (c : Nat) : List UInt8 := [UInt8.ofNat (c / 16777216), UInt8.ofNat (c / 65536 % 256), UInt8.ofNat (c / 256 % 256), UInt8.ofNat (c % 256)]
/-- A sum's bytes as an array's value. -/
def tailB (l : List UInt8) : Value := .agg (l.map bv).toArray

set_option maxRecDepth 20000 in
set_option maxHeartbeats 400000 in
theorem tailOf_any (c : Nat) (hc : c < 4294967296) (w : World) :
    Calls Try.prog 67 #[.int .u32 c] w fun e w' => e = .returned (tailB (tailL c)) ∧ Below w.heap.size w w' := by
  go_enter Try.func67, Try.ntmps67
  go_wp2
  refine wp_loop_rounds 5 ?_
  rw [rounds_succ]
  go_wp2
  rw [rounds_succ]
  go_wp2
  rw [rounds_succ]
  go_wp2
  rw [rounds_succ]
  go_wp2
  rw [rounds_succ]
  go_wp2
  have e1 : (c : Int) / 16777216 = ((UInt8.ofNat (c / 16777216)).toNat : Int) := by simp; omega
  have e2 : (c : Int) / 65536 % 256 = ((UInt8.ofNat (c / 65536 % 256)).toNat : Int) := by simp
  have e3 : (c : Int) / 256 % 256 = ((UInt8.ofNat (c / 256 % 256)).toNat : Int) := by simp
  have e4 : (c : Int) % 256 = ((UInt8.ofNat (c % 256)).toNat : Int) := by simp
  refine bodyPost_ret (v := .agg #[.int .u8 ((c : Int) / 16777216), .int .u8 ((c : Int) / 65536 % 256), .int .u8 ((c : Int) / 256 % 256), .int .u8 ((c : Int) % 256)]) (by simp [results, Try.results67, go_sem]) rfl ⟨?_, ((Below.refl _ _).alloc (Nat.le_refl _) _).alloc (by simp) _⟩
  rw [e1, e2, e3, e4]
  rfl

set_option maxRecDepth 20000 in
set_option maxHeartbeats 400000 in
theorem tailAt_any {w : World} {v : Value} {l : List UInt8} (hv : By w v l) (hl : 4 ≤ l.length) :
    Calls Try.prog 80 #[v] w fun e w' => e = .returned (tailB (l.take 4)) ∧ Below w.heap.size w w' := by
  obtain ⟨p, n, c, rfl⟩ := hv.sl
  obtain ⟨hn, hc⟩ := hv.len
  obtain ⟨b, o, x0, rfl, h0, c0⟩ := hv.cellAt (k := 0) (by omega)
  obtain ⟨_, _, x1, e1, h1, c1⟩ := hv.cellAt (k := 1) (by omega)
  obtain ⟨_, _, x2, e2, h2, c2⟩ := hv.cellAt (k := 2) (by omega)
  obtain ⟨_, _, x3, e3, h3, c3⟩ := hv.cellAt (k := 3) (by omega)
  injection e1 with e1
  injection e2 with e2
  injection e3 with e3
  injection e1 with e1 e1'
  injection e2 with e2 e2'
  injection e3 with e3 e3'
  subst e1 e1' e2 e2' e3 e3'
  have hn4 : (4 : Int) ≤ (n : Int) := by omega
  have hnn : 4 ≤ n := by omega
  have hmin : ([.int .u8 (x0.toNat : Int), .int .u8 (x1.toNat : Int), .int .u8 (x2.toNat : Int), .int .u8 (x3.toNat : Int)] : List Value).length = Nat.min n 4 := by
    show 4 = min n 4
    omega
  have hr := run_copy_cells (P := Try.prog) ((w.alloc (.cells #[.int .u8 0, .int .u8 0, .int .u8 0, .int .u8 0] 96)).alloc (.cells #[.int .u8 0, .int .u8 0, .int .u8 0, .int .u8 0] 96)) 24 24 3 5 (w.heap.size + 1) 0 4 4 ⟨b, o, none⟩ n c
    [.int .u8 (x0.toNat : Int), .int .u8 (x1.toNat : Int), .int .u8 (x2.toNat : Int), .int .u8 (x3.toNat : Int)] Try.underlying24 (by kernel_rfl) hmin
    (fun j v hj => by
      rw [add_lit0]
      match j, hj with
      | 0, hj => simp at hj; subst hj; exact Lib.cell?_alloc_some _ (Lib.cell?_alloc_some _ c0)
      | 1, hj => simp at hj; subst hj; exact Lib.cell?_alloc_some _ (Lib.cell?_alloc_some _ c1)
      | 2, hj => simp at hj; subst hj; exact Lib.cell?_alloc_some _ (Lib.cell?_alloc_some _ c2)
      | 3, hj => simp at hj; subst hj; exact Lib.cell?_alloc_some _ (Lib.cell?_alloc_some _ c3))
    (fun j hj => by
      match j, hj with
      | 0, _ => simp
      | 1, _ => simp
      | 2, _ => simp
      | 3, _ => simp)
    (fun j hj => by simp)
    (fun v hv => by simp at hv; rcases hv with rfl | rfl | rfl | rfl <;> rfl)
  simp only [World.setCells, goInt] at hr
  clear hn hv hmin c0 c1 c2 c3
  go_enter Try.func80, Try.ntmps80
  go_wp2
  have hlt : l.take 4 = [x0, x1, x2, x3] := by
    match l, h0, h1, h2, h3 with
    | a0 :: a1 :: a2 :: a3 :: r, h0, h1, h2, h3 =>
      simp at h0 h1 h2 h3
      subst h0 h1 h2 h3
      rfl
  refine bodyPost_ret (v := .agg #[.int .u8 (x0.toNat : Int), .int .u8 (x1.toNat : Int), .int .u8 (x2.toNat : Int), .int .u8 (x3.toNat : Int)]) (by simp [results, Try.results80, go_sem]) rfl ⟨?_, ((Below.refl _ _).alloc (Nat.le_refl _) _).alloc (by simp) _⟩
  rw [hlt]
  rfl

theorem by_block (w : World) (l : List UInt8) (t : TypeId) (m : Nat × Nat) (hl : l.length ≤ 1000) : By (w.alloc (.cells (l.map bv).toArray t m)) (.slice (some ⟨w.heap.size, 0, none⟩) l.length l.length) l := by
  refine ⟨_, _, rfl, Nat.le_refl _, by simp only [maxLen]; omega, (fun e => by cases e), fun a e i x hx => ?_⟩
  injection e with e
  subst e
  rw [add_lit0, Nat.zero_add, World.cell?_alloc_mark]
  simp [hx]

theorem three_parts {w : World} {v u y : Value} {l m k : List UInt8} (h : By w v l) (h2 : By w u m) (h3 : By w y k) : Bss (w.alloc (.cells #[v, u, y] 24)) (.slice (some ⟨w.heap.size, 0, none⟩) 3 3) [l, m, k] :=
  Bss.new (vs := [v, u, y]) rfl (by decide) rfl fun i u m hu hm => by
    match i, hu, hm with
    | 0, hu, hm => simp at hu hm; subst hu hm; exact h
    | 1, hu, hm => simp at hu hm; subst hu hm; exact h2
    | 2, hu, hm => simp at hu hm; subst hu hm; exact h3

/-- A record without its sum; a record. -/
def front (l : List UInt8) : List UInt8 := 93 :: digits l.length ++ l
def recL (l : List UInt8) : List UInt8 := front l ++ tailL (crc (front l))

set_option maxRecDepth 20000 in
set_option maxHeartbeats 400000 in
/-- wire.Record. -/
theorem wireRecord_long {w : World} {v : Value} {l : List UInt8} (hv : By w v l) (hl : 65536 < l.length) :
    Calls Try.prog 43 #[v] w fun e w' => e = .returned (.tuple #[.slice none 0 0, .int .i64 4]) ∧ w = w' := by
  obtain ⟨p, n, c, rfl⟩ := hv.sl
  have hn := hv.len.1
  have hn' : (65536 : Int) < (n : Int) := by omega
  clear hn hv
  go_enter Try.func43, Try.ntmps43
  go_wp2
  go_ret2
  exact ⟨rfl, rfl⟩

theorem one_lit (w : World) (x : UInt8) (k : Int) (hk : k = (x.toNat : Int)) : By (w.alloc (.cells #[.int .u8 k] 5)) (.slice (some ⟨w.heap.size, 0, none⟩) 1 1) [x] := by
  subst hk
  have := World.ownsRow_lit (e := 5) (size := 1) w #[bv x] 1 (Nat.le_refl _) (by decide) rfl
  exact (Own.of_row (l := [x]) this).by_

set_option maxRecDepth 20000 in
set_option maxHeartbeats 400000 in
theorem wireRecord_any {w : World} {v : Value} {l : List UInt8} (hv : By w v l) (hl : l.length ≤ 65536) :
    Calls Try.prog 43 #[v] w fun e w' => ∃ v', e = .returned (.tuple #[v', .int .i64 0]) ∧ Own w.heap.size w' v' (recL l) ∧ Below w.heap.size w w' := by
  obtain ⟨p, n, c, rfl⟩ := hv.sl
  have hn := hv.len.1
  have hn' : ¬ (65536 : Int) < (n : Int) := by omega
  have HV := hide hv
  have HN := hide hn
  clear hn hv
  go_enter Try.func43, Try.ntmps43
  go_wp2_with fail
  refine (wireNumber_any (one_lit w 93 93 rfl) (by simp) (n : Int) n (by omega) (by unfold lim; omega)).mono ?_
  rintro e w1 ⟨v1, rfl, ho1, hb1⟩
  obtain ⟨p1, n1, c1, rfl⟩ := ho1.by_.sl
  have hb01 : Below w.heap.size w w1 := ((Below.refl _ _).alloc (Nat.le_refl _) _).trans (hb1.mono (by simp))
  have hbs1 := hb01.size
  have hv1 := HV.out.below hb01
  have HP := hide (two_parts ho1.by_ hv1)
  have HO1 := hide ho1
  have HV1 := hide hv1
  clear ho1 hb1 hv1
  go_wp2_with fail
  refine (wireSum_any HP.out).mono ?_
  rintro e w2 ⟨rfl, rfl⟩
  have hfr : [[93] ++ digits n, l].flatten = front l := by
    rw [HN.out]
    simp [front]
  rw [hfr]
  have hlt := crc_lt (front l)
  obtain ⟨S, hS⟩ : ∃ S, crc (front l) = S := ⟨_, rfl⟩
  rw [hS] at hlt ⊢
  have HS := hide hS
  clear hS hfr
  go_wp2_with fail
  refine (tailOf_any S hlt _).mono ?_
  rintro e w3 ⟨rfl, hb3⟩
  obtain ⟨t0, t1, t2, t3, ht⟩ : ∃ t0 t1 t2 t3, tailL S = [t0, t1, t2, t3] := ⟨_, _, _, _, rfl⟩
  have hb13 : Below w1.heap.size w1 w3 := ((Below.refl _ _).alloc (Nat.le_refl _) _).trans (hb3.mono (by simp))
  have hb03 := hb01.trans (hb13.mono hbs1)
  have hs3 := hb03.size
  have htv : tailB (tailL S) = .agg #[.int .u8 (t0.toNat : Int), .int .u8 (t1.toNat : Int), .int .u8 (t2.toNat : Int), .int .u8 (t3.toNat : Int)] := by rw [ht]; rfl
  rw [htv]
  have HT := hide ht
  have HB13 := hide hb13
  have HB03 := hide hb03
  clear ht htv hb3 hb13 hb03
  go_wp2_with fail
  have hT := by_block w3 [t0, t1, t2, t3] 96 (0, 0) (by decide : (4 : Nat) ≤ 1000)
  have hP3 := three_parts ((HO1.out.by_.below HB13.out).alloc (.cells #[.int .u8 (t0.toNat : Int), .int .u8 (t1.toNat : Int), .int .u8 (t2.toNat : Int), .int .u8 (t3.toNat : Int)] 96)) ((HV1.out.below HB13.out).alloc _) hT
  rw [size_alloc'] at hP3
  have hd := digits_length n (by omega)
  refine (join_any hP3 (by have := HN.out; simp [Lib.lens]; omega) (by show 3 ≤ _; omega)).mono ?_
  rintro e w4 ⟨v4, rfl, ho4, hb4⟩
  have hrec : [[93] ++ digits n, l, [t0, t1, t2, t3]].flatten = recL l := by
    unfold recL
    rw [HS.out, HT.out]
    unfold front
    rw [HN.out]
    simp
  rw [hrec] at ho4
  have hb3' : Below w.heap.size w ((w3.alloc (.cells #[.int .u8 (t0.toNat : Int), .int .u8 (t1.toNat : Int), .int .u8 (t2.toNat : Int), .int .u8 (t3.toNat : Int)] 96)).alloc (.cells #[.slice p1 n1 c1, .slice p n c, .slice (some ⟨w3.heap.size, 0, none⟩) 4 4] 24)) :=
    (HB03.out.alloc hs3 _).alloc (by simp; omega) _
  have HR := hide (ho4.mono (show w.heap.size ≤ _ by simp; omega))
  have HE := hide (hb3'.trans (hb4.mono (by simp; omega)))
  clear hT hP3 ho4 hb4 hrec hb3' HP HV HV1 HO1
  go_wp2
  go_ret2
  exact ⟨v4, rfl, HR.out, HE.out⟩

/-! ## The document's -/
set_option maxRecDepth 20000 in
set_option maxHeartbeats 400000 in
theorem refRecord_long {w : World} {v : Value} {l : List UInt8} (hv : By w v l) (hl : 65536 < l.length) :
    Calls Try.prog 49 #[v] w fun e w' => e = .returned (.tuple #[.slice none 0 0, .int .i64 4]) ∧ w = w' := by
  obtain ⟨p, n, c, rfl⟩ := hv.sl
  have hn := hv.len.1
  have hn' : (65536 : Int) < (n : Int) := by omega
  clear hn hv
  go_enter Try.func49, Try.ntmps49
  go_wp2
  go_ret2
  exact ⟨rfl, rfl⟩

theorem four_lit (w : World) (l : List UInt8) (k0 k1 k2 k3 : Int) (x0 x1 x2 x3 : UInt8) (hl : l = [x0, x1, x2, x3]) (h0 : k0 = (x0.toNat : Int)) (h1 : k1 = (x1.toNat : Int)) (h2 : k2 = (x2.toNat : Int)) (h3 : k3 = (x3.toNat : Int)) :
    By (w.alloc (.cells #[.int .u8 k0, .int .u8 k1, .int .u8 k2, .int .u8 k3] 5)) (.slice (some ⟨w.heap.size, 0, none⟩) 4 4) l := by
  subst hl h0 h1 h2 h3
  exact by_block w [x0, x1, x2, x3] 5 (0, 0) (by decide : (4 : Nat) ≤ 1000)

set_option maxRecDepth 20000 in
set_option maxHeartbeats 400000 in
theorem refRecord_any {w : World} {v : Value} {l : List UInt8} (hv : By w v l) (hl : l.length ≤ 65536) :
    Calls Try.prog 49 #[v] w fun e w' => ∃ v', e = .returned (.tuple #[v', .int .i64 0]) ∧ Own w.heap.size w' v' (recL l) ∧ Below w.heap.size w w' := by
  obtain ⟨p, n, c, rfl⟩ := hv.sl
  have hn := hv.len.1
  have hn' : ¬ (65536 : Int) < (n : Int) := by omega
  have hd := digits_length n (by omega)
  have HV := hide hv
  have HN := hide hn
  clear hn hv
  go_enter Try.func49, Try.ntmps49
  go_wp2_with fail
  refine (refNumber_any (one_lit w 93 93 rfl) (by simp) (n : Int) n (by omega) (by unfold lim; omega)).mono ?_
  rintro e w1 ⟨v1, rfl, hown1, hb1⟩
  have hb01 : Below w.heap.size w w1 := ((Below.refl _ _).alloc (Nat.le_refl _) _).trans (hb1.mono (by simp))
  have hbs1 := hb01.size
  have HR1 := hide (Own.of_row hown1)
  have HV1 := hide (HV.out.below hb01)
  have HB01 := hide hb01
  clear hown1 hb1 hb01
  have hls : ([93] ++ digits n).length + l.length ≤ 140737488355328 := by simp; omega
  go_wp2_with (at_builtin; go_must (refine wpList_append_by rfl _ _ rfl rfl rfl rfl (HR1.out.mono (show w.heap.size ≤ _ by simp)) HV1.out hls hbs1 ?_); intro v2 w2 ho2 _ hb2 _)
  obtain ⟨p2, n2, c2, rfl⟩ := ho2.by_.sl
  have hfr : [93] ++ digits n ++ l = front l := by rw [HN.out]; rfl
  rw [hfr] at ho2
  have hb02 := HB01.out.trans hb2
  have hbs2 := hb02.size
  have HO2 := hide ho2
  have HB02 := hide hb02
  clear ho2 hfr hb02 hb2 hls
  refine (refSum_any HO2.out.by_).mono ?_
  rintro e w3 ⟨rfl, rfl⟩
  have hlt := crc_lt (front l)
  obtain ⟨S, hS⟩ : ∃ S, crc (front l) = S := ⟨_, rfl⟩
  rw [hS] at hlt ⊢
  have HS := hide hS
  clear hS
  have e1 : (S : Int) / 16777216 = ((UInt8.ofNat (S / 16777216)).toNat : Int) := by simp; omega
  have e2 : (S : Int) / 65536 % 256 = ((UInt8.ofNat (S / 65536 % 256)).toNat : Int) := by simp
  have e3 : (S : Int) / 256 % 256 = ((UInt8.ofNat (S / 256 % 256)).toNat : Int) := by simp
  have e4 : (S : Int) % 256 = ((UInt8.ofNat (S % 256)).toNat : Int) := by simp
  have h4 := four_lit w2 (tailL S) _ _ _ _ _ _ _ _ rfl e1 e2 e3 e4
  have hl2 : (front l).length + (tailL S).length ≤ 140737488355328 := by
    have := HN.out
    have := digits_length l.length (by omega)
    simp [front, tailL]
    omega
  have H4 := hide h4
  clear e1 e2 e3 e4 h4
  go_wp2_with (at_builtin; go_must (refine wpList_append_by rfl _ _ rfl rfl rfl rfl (HO2.out.below ((Below.refl _ _).alloc (Nat.le_refl _) _)) H4.out hl2 (by simp; omega) ?_); intro v5 w5 ho5 _ hb5 _)
  go_ret2
  refine ⟨v5, rfl, ?_, (HB02.out.alloc hbs2 _).trans hb5⟩
  unfold recL
  rw [HS.out]
  exact ho5
end Go.Proofs.Ytiiollgipfggmaa
