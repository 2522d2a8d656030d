/- One span put into a store. -/
import Derived.Test.YtimjplkehlgelaaGreatSo1
namespace Go.Proofs.YtimjplkehlgelaaGreat
set_option linter.unusedVariables false
set_option linter.unusedSimpArgs false
open Go.RowKit

theorem addV_one {L : List Sp} {x : Sp} {t : Int} (hx : x.ok = true) (ht : x.t = t) : addV t L [x] = .tuple #[cnV (putP L cn0 x).2, .int .i64 0] := by
  unfold addV
  rw [if_pos (by simp [hx, ht])]
  rfl
theorem addP_one {L : List Sp} {x : Sp} {t : Int} (hx : x.ok = true) (ht : x.t = t) : addP t L [x] = (putP L cn0 x).1 := by
  unfold addP
  rw [if_pos (by simp [hx, ht])]
  rfl
theorem sps_one6 (w : World) (x : Sp) : Sps (w.alloc (.cells #[.int .i64 x.t, .int .i64 x.i, .int .i64 x.p, .int .i64 x.s, .int .i64 x.e, .string x.n] 38)) (.slice (some ⟨w.heap.size, 0, none⟩) 1 1) [x] := by
  refine ⟨_, 1, rfl, Nat.le_refl _, by decide, (fun e => by cases e), fun _ => ⟨_, 0, rfl, fun i y hi => ?_⟩⟩
  match i, hi with
  | 0, hi =>
    simp at hi
    subst hi
    exact spAt_new w x
  | i + 1, hi => simp at hi
theorem sp_name {x : Sp} (hx : x.ok = true) : x.n.size ≤ 1000000 := by
  have := ((Sp.ok_iff x).1 hx).n2
  have h2 : x.nl.length = x.n.size := by simp [Sp.nl]
  omega
theorem put1_some {R : List Tr} {x : Sp} {y : Tr} (h : fndK kR R x.t = some y) : put1 (R.map Tr.pl) x = (insK kP (R.map Tr.pl) (x.t, (putP y.L cn0 x).1), (putP y.L cn0 x).2) := by
  unfold put1
  rw [fndK_map Tr.pl kR_pl, h]
  rfl
theorem put1_full {R : List Tr} {x : Sp} (h : fndK kR R x.t = none) (hl : 32 ≤ R.length) : put1 (R.map Tr.pl) x = (R.map Tr.pl, ⟨0, 0, 0, 0, 1⟩) := by
  unfold put1
  rw [fndK_map Tr.pl kR_pl, h]
  dsimp only [Option.map]
  rw [if_pos (by simpa using hl)]
theorem put1_new {R : List Tr} {x : Sp} (h : fndK kR R x.t = none) (hl : ¬ 32 ≤ R.length) : put1 (R.map Tr.pl) x = (insK kP (R.map Tr.pl) (x.t, (putP [] cn0 x).1), (putP [] cn0 x).2) := by
  unfold put1
  rw [fndK_map Tr.pl kR_pl, h]
  dsimp only [Option.map]
  rw [if_neg (by simpa using hl)]
/-- What put says of a span. -/
def SPutPost (w : World) (gs bm : Nat) (R : List Tr) (x : Sp) (e : Ending) (w' : World) : Prop := e = .returned (cnV (put1 (R.map Tr.pl) x).2) ∧ ∃ R', SoTo w w' gs bm R R' (put1 (R.map Tr.pl) x).1
set_option maxRecDepth 200000 in
set_option maxHeartbeats 2000000 in
theorem sput_some {w : World} {gs bm : Nat} {R : List Tr} {x : Sp} {y : Tr} (h : SoIs w gs bm R) (hx : x.ok = true) (hf : fndK kR R x.t = some y) : Calls Tryz.prog 36 #[.pointer (some ⟨gs, 0, none⟩), spV x] w (SPutPost w gs bm R x) := by
  obtain ⟨hy, hyt⟩ := fndK_mem hf
  have hx' := (Sp.ok_iff x).1 hx
  have hwf : (Lit.int .i64 x.t).wf = true := WalkArith.wf_i64 (by have := hx'.t1; have := hx'.t2; omega)
  have hZ1 := ((Below.refl w.heap.size w).alloc (Nat.le_refl _) (.cells #[.int .i64 x.t, .int .i64 x.i, .int .i64 x.p, .int .i64 x.s, .int .i64 x.e, .string x.n] 38))
  have hZ0 := hZ1.alloc hZ1.size (.cells #[.int .i64 0, .int .i64 0, .int .i64 0, .int .i64 0, .int .i64 0] 40)
  have hr0 := heap_alloc_new w (.cells #[.int .i64 x.t, .int .i64 x.i, .int .i64 x.p, .int .i64 x.s, .int .i64 x.e, .string x.n] 38)
  have hr1 := heap_alloc_new (w.alloc (.cells #[.int .i64 x.t, .int .i64 x.i, .int .i64 x.p, .int .i64 x.s, .int .i64 x.e, .string x.n] 38)) (.cells #[.int .i64 0, .int .i64 0, .int .i64 0, .int .i64 0, .int .i64 0] 40)
  have hs0 := spAt_new w x
  obtain ⟨Z, hZ⟩ : ∃ Z, (w.alloc (.cells #[.int .i64 x.t, .int .i64 x.i, .int .i64 x.p, .int .i64 x.s, .int .i64 x.e, .string x.n] 38)).alloc (.cells #[.int .i64 0, .int .i64 0, .int .i64 0, .int .i64 0, .int .i64 0] 40) = Z := ⟨_, rfl⟩
  have hsZ : SpAt Z w.heap.size 0 x := by rw [← hZ]; exact hs0.below ((Below.refl _ _).alloc (Nat.le_refl _) _)
  have hzs : Z.heap.size = w.heap.size + 2 := by rw [← hZ]; simp
  have hrZ : Z.heap[w.heap.size + 1]? = some (.cells #[.int .i64 0, .int .i64 0, .int .i64 0, .int .i64 0, .int .i64 0] 40) := by
    rw [← hZ]
    simpa using hr1
  rw [hZ] at hZ0
  have hSZ := h.below hZ0
  have c0 := hSZ.c0
  obtain ⟨D, hD⟩ := hSZ.map
  have hl := fun q => hD.look hwf q
  rw [hf] at hl
  have hl0 := hl 0
  have hfo := hSZ.fo y hy
  obtain ⟨z0, z1, z2, z3, z4, z5⟩ := hsZ.z
  have HZ := hide hZ
  have HH := hide h
  have HX := hide (And.intro hx (And.intro hy (And.intro (show x.t = y.t from hyt.symm) hf)))
  have HZZ := hide (And.intro hZ0 (And.intro hzs hrZ))
  have HFO := hide hfo
  have HSZ := hide hSZ
  clear h hx hx' hwf hZ0 hr0 hr1 hs0 hsZ hrZ hSZ hD hfo hZ hzs hf hyt hy hZ1
  obtain ⟨t, i, p', s, en, nm⟩ := x
  unfold spV ptrV Tr.v at *
  dsimp only at *
  go_enter Tryz.func36, Tryz.ntmps36
  go_wp2_with fail
  rw [HZ.out]
  go_quiet (fail)
  go_wp2_with fail
  have hA := add_any ((HFO.out.drewN nq).below ((Below.refl _ _).alloc (Nat.le_refl _) (.cells #[.int .i64 t, .int .i64 i, .int .i64 p', .int .i64 s, .int .i64 en, .string nm] 38))) (sps_one6 (Z.drewN nq) ⟨t, i, p', s, en, nm⟩) (by simp) (fun x hx => by
    simp only [List.mem_cons, List.not_mem_nil, or_false] at hx
    subst hx
    exact sp_name HX.out.1)
  refine hA.mono ?_
  clear hA
  rintro e5 w5 ⟨he5, hf5, hc5⟩
  obtain ⟨C, hC⟩ : ∃ C, (putP y.L cn0 ⟨t, i, p', s, en, nm⟩).2 = C := ⟨_, rfl⟩
  obtain rfl : e5 = .returned (.tuple #[.agg #[.int .i64 (C.add : Nat), .int .i64 (C.same : Nat), .int .i64 (C.other : Nat), .int .i64 (C.cyc : Nat), .int .i64 (C.full : Nat)], .int .i64 0]) := by
    rw [addV_one HX.out.1 HX.out.2.2.1, hC] at he5
    exact he5
  rw [addP_one HX.out.1 HX.out.2.2.1] at hf5
  have HC := hide hC
  have hcZ : Chg w w5 (fun k => k = y.b) := (((Chg.of_below HZZ.out.1 (fun k => k = y.b)).drewN nq).alloc _).trans hc5 (fun k hk => .inl hk)
  have hyl := (HH.out.fo y HX.out.2.1).lt
  have hr5 : w5.heap[w.heap.size + 1]? = some (.cells #[.int .i64 0, .int .i64 0, .int .i64 0, .int .i64 0, .int .i64 0] 40) := by
    have hb := ((Below.refl (Z.drewN nq).heap.size (Z.drewN nq)).alloc (Nat.le_refl _) (.cells #[.int .i64 t, .int .i64 i, .int .i64 p', .int .i64 s, .int .i64 en, .string nm] 38))
    have hzs := HZZ.out.2.1
    rw [hc5.block (w.heap.size + 1) (by simp; omega) (by omega), hb.block (w.heap.size + 1) (by show w.heap.size + 1 < Z.heap.size; omega)]
    exact HZZ.out.2.2
  have HW5 := hide (And.intro hcZ (And.intro hf5 hyl))
  have hz5 : w.heap.size + 1 < w5.heap.size := (Array.getElem?_eq_some_iff.1 hr5).1
  have hb5 := (Below.refl w5.heap.size w5).alloc (Nat.le_refl _) (.cells #[.int .i64 (C.add : Nat), .int .i64 (C.same : Nat), .int .i64 (C.other : Nat), .int .i64 (C.cyc : Nat), .int .i64 (C.full : Nat)] 40)
  have hn5 := heap_alloc_new w5 (.cells #[.int .i64 (C.add : Nat), .int .i64 (C.same : Nat), .int .i64 (C.other : Nat), .int .i64 (C.cyc : Nat), .int .i64 (C.full : Nat)] 40)
  have hr6 := (hb5.block (w.heap.size + 1) hz5).trans hr5
  clear he5 hf5 hc5 hC hcZ hyl hr5
  go_upto_region 8 with fail
  obtain ⟨W6, hW6⟩ : ∃ W6, w5.alloc (.cells #[.int .i64 (C.add : Nat), .int .i64 (C.same : Nat), .int .i64 (C.other : Nat), .int .i64 (C.cyc : Nat), .int .i64 (C.full : Nat)] 40) = W6 := ⟨_, rfl⟩
  rw [hW6] at hb5 hn5 hr6 ⊢
  have m0 := cell_of_row W6 (w.heap.size + 1) 0 _ 40 (0, 0) hr6
  have mf0 := frozen_of_row W6 (w.heap.size + 1) 0 _ 40 hr6
  have n0 := cell_of_row W6 w5.heap.size 0 _ 40 (0, 0) hn5
  have m1 := cell_of_row W6 (w.heap.size + 1) 1 _ 40 (0, 0) hr6
  have mf1 := frozen_of_row W6 (w.heap.size + 1) 1 _ 40 hr6
  have n1 := cell_of_row W6 w5.heap.size 1 _ 40 (0, 0) hn5
  have m2 := cell_of_row W6 (w.heap.size + 1) 2 _ 40 (0, 0) hr6
  have mf2 := frozen_of_row W6 (w.heap.size + 1) 2 _ 40 hr6
  have n2 := cell_of_row W6 w5.heap.size 2 _ 40 (0, 0) hn5
  have m3 := cell_of_row W6 (w.heap.size + 1) 3 _ 40 (0, 0) hr6
  have mf3 := frozen_of_row W6 (w.heap.size + 1) 3 _ 40 hr6
  have n3 := cell_of_row W6 w5.heap.size 3 _ 40 (0, 0) hn5
  have m4 := cell_of_row W6 (w.heap.size + 1) 4 _ 40 (0, 0) hr6
  have mf4 := frozen_of_row W6 (w.heap.size + 1) 4 _ 40 hr6
  have n4 := cell_of_row W6 w5.heap.size 4 _ 40 (0, 0) hn5
  simp only [List.getElem?_toArray, List.getElem?_cons_succ, List.getElem?_cons_zero] at m0 m1 m2 m3 m4 n0 n1 n2 n3 n4
  have HR6 := hide (And.intro hr6 (And.intro hn5 hb5))
  clear hr6 hn5 hb5 hW6
  go_wp2
  refine bodyPost_ret (v := cnV C) (by
    have q5 := five_set HR6.out.1 (.int .i64 (C.add : Nat)) (.int .i64 (C.same : Nat)) (.int .i64 (C.other : Nat)) (.int .i64 (C.cyc : Nat)) (.int .i64 (C.full : Nat))
    generalize (((((W6.setCell ⟨w.heap.size + 1, 0, none⟩ (.int .i64 (C.add : Nat))).setCell ⟨w.heap.size + 1, 1, none⟩ (.int .i64 (C.same : Nat))).setCell ⟨w.heap.size + 1, 2, none⟩ (.int .i64 (C.other : Nat))).setCell ⟨w.heap.size + 1, 3, none⟩ (.int .i64 (C.cyc : Nat))).setCell ⟨w.heap.size + 1, 4, none⟩ (.int .i64 (C.full : Nat))) = W9 at q5 ⊢
    have m0 := cell_of_row W9 (w.heap.size + 1) 0 _ 40 (0, 0) q5
    have m1 := cell_of_row W9 (w.heap.size + 1) 1 _ 40 (0, 0) q5
    have m2 := cell_of_row W9 (w.heap.size + 1) 2 _ 40 (0, 0) q5
    have m3 := cell_of_row W9 (w.heap.size + 1) 3 _ 40 (0, 0) q5
    have m4 := cell_of_row W9 (w.heap.size + 1) 4 _ 40 (0, 0) q5
    have hz9 : w.heap.size + 1 < W9.heap.size := by have := (Array.getElem?_eq_some_iff.1 q5).1; exact this
    clear q5
    unfold cnV
    simp at m0 m1 m2 m3 m4
    simp [results, Tryz.results36, go_sem, m0, m1, m2, m3, m4, hz9]) rfl ⟨by rw [put1_some HX.out.2.2.2, HC.out], insK kR R { y with L := (putP y.L cn0 ⟨t, i, p', s, en, nm⟩).1 }, ?_⟩
  have hc9 := five_chg (HW5.out.1.belowed HR6.out.2.2) (.inr (by omega) : w.heap.size + 1 = y.b ∨ w.heap.size ≤ w.heap.size + 1) (.int .i64 (C.add : Nat)) (.int .i64 (C.same : Nat)) (.int .i64 (C.other : Nat)) (.int .i64 (C.cyc : Nat)) (.int .i64 (C.full : Nat))
  have hf9 := HW5.out.2.1.chg (five_chg (Chg.of_below HR6.out.2.2 (fun k => k = w.heap.size + 1)) (.inl rfl) (.int .i64 (C.add : Nat)) (.int .i64 (C.same : Nat)) (.int .i64 (C.other : Nat)) (.int .i64 (C.cyc : Nat)) (.int .i64 (C.full : Nat))) (by have := HW5.out.2.2.1; omega) (by have := HW5.out.2.2.2; omega)
  have hyt : y.t = t := HX.out.2.2.1.symm
  have hok := put1_ok HH.out.ok HX.out.1
  rw [put1_some HX.out.2.2.2] at hok ⊢
  dsimp only at hok ⊢
  refine ⟨HH.out.with_ HX.out.2.1 hf9 hc9 (by rw [hyt]; exact hok), ?_, hc9.mono (fun k hk => .inr ⟨y, HX.out.2.1, hk⟩), fun k hk => ?_⟩
  · rw [insK_map Tr.pl kR_pl]
    show insK kP (R.map Tr.pl) (y.t, _) = _
    rw [hyt]
  · rcases soS_ins HH.out.rises hk with h1 | h1 | h1
    · exact .inl h1
    · exact .inl (.inr (.inr ⟨y, HX.out.2.1, .inl h1⟩))
    · exact .inl (.inr (.inr ⟨y, HX.out.2.1, .inr h1⟩))
set_option maxRecDepth 200000 in
set_option maxHeartbeats 2000000 in
theorem sput_full {w : World} {gs bm : Nat} {R : List Tr} {x : Sp} (h : SoIs w gs bm R) (hx : x.ok = true) (hf : fndK kR R x.t = none) (hL : 32 ≤ R.length) : Calls Tryz.prog 36 #[.pointer (some ⟨gs, 0, none⟩), spV x] w (SPutPost w gs bm R x) := by
  have hx' := (Sp.ok_iff x).1 hx
  have hwf : (Lit.int .i64 x.t).wf = true := WalkArith.wf_i64 (by have := hx'.t1; have := hx'.t2; omega)
  have hZ1 := ((Below.refl w.heap.size w).alloc (Nat.le_refl _) (.cells #[.int .i64 x.t, .int .i64 x.i, .int .i64 x.p, .int .i64 x.s, .int .i64 x.e, .string x.n] 38))
  have hZ0 := hZ1.alloc hZ1.size (.cells #[.int .i64 0, .int .i64 0, .int .i64 0, .int .i64 0, .int .i64 0] 40)
  have hr0 := heap_alloc_new w (.cells #[.int .i64 x.t, .int .i64 x.i, .int .i64 x.p, .int .i64 x.s, .int .i64 x.e, .string x.n] 38)
  have hr1 := heap_alloc_new (w.alloc (.cells #[.int .i64 x.t, .int .i64 x.i, .int .i64 x.p, .int .i64 x.s, .int .i64 x.e, .string x.n] 38)) (.cells #[.int .i64 0, .int .i64 0, .int .i64 0, .int .i64 0, .int .i64 0] 40)
  have hs0 := spAt_new w x
  obtain ⟨Z, hZ⟩ : ∃ Z, (w.alloc (.cells #[.int .i64 x.t, .int .i64 x.i, .int .i64 x.p, .int .i64 x.s, .int .i64 x.e, .string x.n] 38)).alloc (.cells #[.int .i64 0, .int .i64 0, .int .i64 0, .int .i64 0, .int .i64 0] 40) = Z := ⟨_, rfl⟩
  have hsZ : SpAt Z w.heap.size 0 x := by rw [← hZ]; exact hs0.below ((Below.refl _ _).alloc (Nat.le_refl _) _)
  have hzs : Z.heap.size = w.heap.size + 2 := by rw [← hZ]; simp
  have hrZ : Z.heap[w.heap.size + 1]? = some (.cells #[.int .i64 0, .int .i64 0, .int .i64 0, .int .i64 0, .int .i64 0] 40) := by
    rw [← hZ]
    simpa using hr1
  rw [hZ] at hZ0
  have hSZ := h.below hZ0
  have c0 := hSZ.c0
  obtain ⟨D, hD⟩ := hSZ.map
  have hl := fun q => hD.look hwf q
  rw [hf] at hl
  have hlen := fun q => (hD.drewN q).map.len Tryz.underlying68 3
  have HD := hide hD
  have hl0 := hl 0
  obtain ⟨z0, z1, z2, z3, z4, z5⟩ := hsZ.z
  have hL9 : (32 : Int) ≤ (R.length : Int) := by omega
  have HL := hide hL
  clear hL
  have HZ := hide hZ
  have HH := hide h
  have HX := hide (And.intro hx hf)
  have HZZ := hide (And.intro hZ0 (And.intro hzs hrZ))
  have HSZ := hide hSZ
  clear h hx hx' hwf hZ0 hr0 hr1 hs0 hsZ hrZ hSZ hD  hZ hzs hf hZ1
  obtain ⟨t, i, p', s, en, nm⟩ := x
  unfold spV ptrV at *
  dsimp only at *
  go_enter Tryz.func36, Tryz.ntmps36
  go_wp2_with fail
  rw [HZ.out]
  go_quiet (fail)
  have hlen1 := hlen nq
  obtain ⟨W, hW⟩ : ∃ W, Z.drewN nq = W := ⟨_, rfl⟩
  have hcW : W.cell? ⟨gs, 0, none⟩ = some (.map (some bm)) := by rw [← hW]; exact c0
  have hrW : W.heap[w.heap.size + 1]? = some (.cells #[.int .i64 0, .int .i64 0, .int .i64 0, .int .i64 0, .int .i64 0] 40) := by rw [← hW]; exact HZZ.out.2.2
  have hbW : Below w.heap.size w W := by rw [← hW]; exact HZZ.out.1.trans (bdrew Z nq)
  rw [HD.out.rd.size, hW] at hlen1
  rw [hW]
  have m0 := cell_of_row W (w.heap.size + 1) 0 _ 40 (0, 0) hrW
  have mf0 := frozen_of_row W (w.heap.size + 1) 0 _ 40 hrW
  have m1 := cell_of_row W (w.heap.size + 1) 1 _ 40 (0, 0) hrW
  have mf1 := frozen_of_row W (w.heap.size + 1) 1 _ 40 hrW
  have m2 := cell_of_row W (w.heap.size + 1) 2 _ 40 (0, 0) hrW
  have mf2 := frozen_of_row W (w.heap.size + 1) 2 _ 40 hrW
  have m3 := cell_of_row W (w.heap.size + 1) 3 _ 40 (0, 0) hrW
  have mf3 := frozen_of_row W (w.heap.size + 1) 3 _ 40 hrW
  have m4 := cell_of_row W (w.heap.size + 1) 4 _ 40 (0, 0) hrW
  have mf4 := frozen_of_row W (w.heap.size + 1) 4 _ 40 hrW
  simp only [List.getElem?_toArray, List.getElem?_cons_succ, List.getElem?_cons_zero] at m0 m1 m2 m3 m4
  have HRW := hide (And.intro hrW hbW)
  clear hrW hbW hW hlen hl hl0
  go_wp2
  refine bodyPost_ret (v := cnV ⟨0, 0, 0, 0, 1⟩) (by
    have q5 := five_set HRW.out.1 (.int .i64 0) (.int .i64 0) (.int .i64 0) (.int .i64 0) (.int .i64 1)
    generalize (((((W.setCell ⟨w.heap.size + 1, 0, none⟩ (.int .i64 0)).setCell ⟨w.heap.size + 1, 1, none⟩ (.int .i64 0)).setCell ⟨w.heap.size + 1, 2, none⟩ (.int .i64 0)).setCell ⟨w.heap.size + 1, 3, none⟩ (.int .i64 0)).setCell ⟨w.heap.size + 1, 4, none⟩ (.int .i64 1)) = W9 at q5 ⊢
    have m0 := cell_of_row W9 (w.heap.size + 1) 0 _ 40 (0, 0) q5
    have m1 := cell_of_row W9 (w.heap.size + 1) 1 _ 40 (0, 0) q5
    have m2 := cell_of_row W9 (w.heap.size + 1) 2 _ 40 (0, 0) q5
    have m3 := cell_of_row W9 (w.heap.size + 1) 3 _ 40 (0, 0) q5
    have m4 := cell_of_row W9 (w.heap.size + 1) 4 _ 40 (0, 0) q5
    have hz9 : w.heap.size + 1 < W9.heap.size := by have := (Array.getElem?_eq_some_iff.1 q5).1; exact this
    clear q5
    unfold cnV
    simp at m0 m1 m2 m3 m4
    simp [results, Tryz.results36, go_sem, m0, m1, m2, m3, m4, hz9]) rfl ⟨by rw [put1_full HX.out.2 HL.out], R, ?_⟩
  have hc9 := five_chg (Chg.of_below HRW.out.2 (fun _ => False)) (.inr (by omega) : False ∨ w.heap.size ≤ w.heap.size + 1) (.int .i64 0) (.int .i64 0) (.int .i64 0) (.int .i64 0) (.int .i64 1)
  rw [put1_full HX.out.2 HL.out]
  exact ⟨HH.out.chg hc9 (fun _ _ h => h), rfl, hc9.mono (fun k h => h.elim), fun k hk => .inl hk⟩
set_option maxRecDepth 200000 in
set_option maxHeartbeats 2000000 in
theorem sput_new {w : World} {gs bm : Nat} {R : List Tr} {x : Sp} (h : SoIs w gs bm R) (hx : x.ok = true) (hf : fndK kR R x.t = none) (hL : ¬ 32 ≤ R.length) : Calls Tryz.prog 36 #[.pointer (some ⟨gs, 0, none⟩), spV x] w (SPutPost w gs bm R x) := by
  have hx' := (Sp.ok_iff x).1 hx
  have hwf : (Lit.int .i64 x.t).wf = true := WalkArith.wf_i64 (by have := hx'.t1; have := hx'.t2; omega)
  have hZ1 := ((Below.refl w.heap.size w).alloc (Nat.le_refl _) (.cells #[.int .i64 x.t, .int .i64 x.i, .int .i64 x.p, .int .i64 x.s, .int .i64 x.e, .string x.n] 38))
  have hZ0 := hZ1.alloc hZ1.size (.cells #[.int .i64 0, .int .i64 0, .int .i64 0, .int .i64 0, .int .i64 0] 40)
  have hr0 := heap_alloc_new w (.cells #[.int .i64 x.t, .int .i64 x.i, .int .i64 x.p, .int .i64 x.s, .int .i64 x.e, .string x.n] 38)
  have hr1 := heap_alloc_new (w.alloc (.cells #[.int .i64 x.t, .int .i64 x.i, .int .i64 x.p, .int .i64 x.s, .int .i64 x.e, .string x.n] 38)) (.cells #[.int .i64 0, .int .i64 0, .int .i64 0, .int .i64 0, .int .i64 0] 40)
  have hs0 := spAt_new w x
  obtain ⟨Z, hZ⟩ : ∃ Z, (w.alloc (.cells #[.int .i64 x.t, .int .i64 x.i, .int .i64 x.p, .int .i64 x.s, .int .i64 x.e, .string x.n] 38)).alloc (.cells #[.int .i64 0, .int .i64 0, .int .i64 0, .int .i64 0, .int .i64 0] 40) = Z := ⟨_, rfl⟩
  have hsZ : SpAt Z w.heap.size 0 x := by rw [← hZ]; exact hs0.below ((Below.refl _ _).alloc (Nat.le_refl _) _)
  have hzs : Z.heap.size = w.heap.size + 2 := by rw [← hZ]; simp
  have hrZ : Z.heap[w.heap.size + 1]? = some (.cells #[.int .i64 0, .int .i64 0, .int .i64 0, .int .i64 0, .int .i64 0] 40) := by
    rw [← hZ]
    simpa using hr1
  rw [hZ] at hZ0
  have hSZ := h.below hZ0
  have c0 := hSZ.c0
  obtain ⟨D, hD⟩ := hSZ.map
  have hl := fun q => hD.look hwf q
  rw [hf] at hl
  have hlen := fun q => (hD.drewN q).map.len Tryz.underlying68 3
  have HD := hide hD
  have hl0 := hl 0
  obtain ⟨z0, z1, z2, z3, z4, z5⟩ := hsZ.z
  have HSP := hide hsZ
  have hL9 : ¬ (32 : Int) ≤ (R.length : Int) := by omega
  have HL := hide hL
  have HWF := hide hwf
  clear hL
  have HZ := hide hZ
  have HH := hide h
  have HX := hide (And.intro hx hf)
  have HZZ := hide (And.intro hZ0 (And.intro hzs hrZ))
  have HSZ := hide hSZ
  clear h hx hx' hwf hZ0 hr0 hr1 hs0 hsZ hrZ hSZ hD  hZ hzs hf hZ1
  obtain ⟨t, i, p', s, en, nm⟩ := x
  unfold spV ptrV at *
  dsimp only at *
  go_enter Tryz.func36, Tryz.ntmps36
  go_wp2_with fail
  rw [HZ.out]
  go_quiet (fail)
  have hlen1 := hlen nq
  obtain ⟨W, hW⟩ : ∃ W, Z.drewN nq = W := ⟨_, rfl⟩
  have hcW : W.cell? ⟨gs, 0, none⟩ = some (.map (some bm)) := by rw [← hW]; exact c0
  have htW : W.cell? ⟨w.heap.size, 0, none⟩ = some (.int .i64 t) := by rw [← hW]; exact z0
  have hsW : SpAt W w.heap.size 0 ⟨t, i, p', s, en, nm⟩ := by rw [← hW]; exact HSP.out
  have hrW : W.heap[w.heap.size + 1]? = some (.cells #[.int .i64 0, .int .i64 0, .int .i64 0, .int .i64 0, .int .i64 0] 40) := by rw [← hW]; exact HZZ.out.2.2
  have hbW : Below w.heap.size w W := by rw [← hW]; exact HZZ.out.1.trans (bdrew Z nq)
  have hzW : W.heap.size = w.heap.size + 2 := by rw [← hW]; exact HZZ.out.2.1
  have hDW : TrIs W bm R D := by rw [← hW]; exact HD.out.drewN nq
  rw [HD.out.rd.size, hW] at hlen1
  rw [hW]
  have HRW := hide (And.intro hrW (And.intro hbW (And.intro hzW (And.intro hDW (And.intro hcW hsW)))))
  clear hrW hbW hW hlen hl hl0 hzW hDW z0 z1 z2 z3 z4 z5 c0 hsW
  go_wp2_with fail
  refine (new_any (tr := t) (by have := ((Sp.ok_iff _).1 HX.out.1).t1; exact this) (by have := ((Sp.ok_iff _).1 HX.out.1).t2; exact this)).mono ?_
  rintro e2 w2 ⟨rfl, hf2, hb2⟩
  obtain ⟨g, hg⟩ : ∃ g, W.heap.size + 1 = g := ⟨_, rfl⟩
  obtain ⟨b, hb⟩ : ∃ b, W.heap.size = b := ⟨_, rfl⟩
  have hgw : w.heap.size + 2 < g := by have := HRW.out.2.2.1; omega
  have hbw : w.heap.size + 2 ≤ b := by have := HRW.out.2.2.1; omega
  rw [hg, hb] at hf2
  rw [hg]
  have hbW2 : Below W.heap.size W w2 := hb2
  have hDW2 : TrIs w2.drew bm R D := (HRW.out.2.2.2.1.below hb2).drewN 1
  obtain ⟨w3, D3, hrun, hg3, hm3⟩ := hDW2.store (x := ⟨t, g, b, []⟩) HWF.out (by simp [maxLen]; have := HL.out; omega)
  have c2 : w2.cell? ⟨gs, 0, none⟩ = some (.map (some bm)) := (hb2.cell (lt_of_cell hcW)).trans hcW
  have t2 : w2.cell? ⟨w.heap.size, 0, none⟩ = some (.int .i64 t) := (hb2.cell (lt_of_cell htW)).trans htW
  have H2 := hide (And.intro hf2 (And.intro hb2 (And.intro hg3 hm3)))
  clear hf2 hb2 hg3 hm3 hDW2 hbW2 hg hb hlen1 hL9 hcW htW
  dsimp only at hrun
  go_wp2_with fail
  go_region
  have hbm : bm < w.heap.size := HH.out.lt bm (.inr (.inl rfl))
  have hc3 : Chg w2 w3 (fun k => k = bm) := by
    have h3 : Chg w2.drew w3 (fun k => k = bm) := Chg.of_grown H2.out.2.2.1 _ (fun k e => by injection e with e; exact .inl e.symm)
    exact ⟨h3.os, h3.tape, h3.output, h3.size, h3.block⟩
  have hcW3 : Chg w w3 (fun k => k = bm) := (Chg.of_below (HRW.out.2.1.trans (H2.out.2.1.mono HRW.out.2.1.size)) (fun k => k = bm)).trans hc3 (fun k hk => .inl hk)
  have hz2 : w.heap.size + 2 ≤ w2.heap.size := by have := H2.out.2.1.size; have := HRW.out.2.2.1; omega
  have hr3 := (hc3.block (w.heap.size + 1) (by omega) (by omega)).trans ((H2.out.2.1.block (w.heap.size + 1) (by have := HRW.out.2.2.1; omega)).trans HRW.out.1)
  have hs3 : SpAt w3 w.heap.size 0 ⟨t, i, p', s, en, nm⟩ := fun k u hk => hc3.cell ((H2.out.2.1.cell (lt_of_cell (HRW.out.2.2.2.2.2 k u hk))).trans (HRW.out.2.2.2.2.2 k u hk)) (by show ¬ w.heap.size = bm; omega)
  have hf3 : FoIs w3 g b t [] := H2.out.1.chg hc3 (by omega) (by omega)
  have HF3 := hide hf3
  have H3 := hide (And.intro hcW3 (And.intro hr3 (And.intro (show w.heap.size + 2 ≤ w3.heap.size by have := hc3.size; omega) H2.out.2.2.2)))
  obtain ⟨z0, z1, z2, z3, z4, z5⟩ := hs3.z
  clear hc3 hcW3 hz2 hr3 hs3 hf3 hrun
  go_wp2_with fail
  have hA := add_any (HF3.out.below ((Below.refl _ _).alloc (Nat.le_refl _) (.cells #[.int .i64 t, .int .i64 i, .int .i64 p', .int .i64 s, .int .i64 en, .string nm] 38))) (sps_one6 w3 ⟨t, i, p', s, en, nm⟩) (by simp) (fun x hx => by
    simp only [List.mem_cons, List.not_mem_nil, or_false] at hx
    subst hx
    exact sp_name HX.out.1)
  refine hA.mono ?_
  clear hA
  rintro e5 w5 ⟨he5, hf5, hc5⟩
  obtain ⟨C, hC⟩ : ∃ C, (putP [] cn0 ⟨t, i, p', s, en, nm⟩).2 = C := ⟨_, rfl⟩
  have hxo := HX.out.1
  obtain rfl : e5 = .returned (.tuple #[.agg #[.int .i64 (C.add : Nat), .int .i64 (C.same : Nat), .int .i64 (C.other : Nat), .int .i64 (C.cyc : Nat), .int .i64 (C.full : Nat)], .int .i64 0]) := by
    rw [addV_one HX.out.1 rfl, hC] at he5
    exact he5
  rw [addP_one HX.out.1 rfl] at hf5
  have HC := hide hC
  have hb6 := (Below.refl w3.heap.size w3).alloc (Nat.le_refl _) (.cells #[.int .i64 t, .int .i64 i, .int .i64 p', .int .i64 s, .int .i64 en, .string nm] 38)
  have hc35 : Chg w3 w5 (fun k => k = b) := (Chg.of_below hb6 (fun k => k = b)).trans hc5 (fun k hk => .inl hk)
  have hcZ : Chg w w5 (fun k => k = bm) := H3.out.1.trans hc35 (fun k hk => .inr (by omega))
  have hr5 : w5.heap[w.heap.size + 1]? = some (.cells #[.int .i64 0, .int .i64 0, .int .i64 0, .int .i64 0, .int .i64 0] 40) := (hc35.block (w.heap.size + 1) (by have := H3.out.2.2.1; omega) (by omega)).trans H3.out.2.1
  have hm5 := H3.out.2.2.2.chg hc35 (by omega)
  have HW5 := hide (And.intro hcZ (And.intro hf5 hm5))
  have hz5 : w.heap.size + 1 < w5.heap.size := (Array.getElem?_eq_some_iff.1 hr5).1
  have hb5 := (Below.refl w5.heap.size w5).alloc (Nat.le_refl _) (.cells #[.int .i64 (C.add : Nat), .int .i64 (C.same : Nat), .int .i64 (C.other : Nat), .int .i64 (C.cyc : Nat), .int .i64 (C.full : Nat)] 40)
  have hn5 := heap_alloc_new w5 (.cells #[.int .i64 (C.add : Nat), .int .i64 (C.same : Nat), .int .i64 (C.other : Nat), .int .i64 (C.cyc : Nat), .int .i64 (C.full : Nat)] 40)
  have hr6 := (hb5.block (w.heap.size + 1) hz5).trans hr5
  clear he5 hf5 hc5 hC hcZ hr5 hb6 hc35 hm5
  go_upto_region 8 with fail
  obtain ⟨W6, hW6⟩ : ∃ W6, w5.alloc (.cells #[.int .i64 (C.add : Nat), .int .i64 (C.same : Nat), .int .i64 (C.other : Nat), .int .i64 (C.cyc : Nat), .int .i64 (C.full : Nat)] 40) = W6 := ⟨_, rfl⟩
  rw [hW6] at hb5 hn5 hr6 ⊢
  have m0 := cell_of_row W6 (w.heap.size + 1) 0 _ 40 (0, 0) hr6
  have mf0 := frozen_of_row W6 (w.heap.size + 1) 0 _ 40 hr6
  have n0 := cell_of_row W6 w5.heap.size 0 _ 40 (0, 0) hn5
  have m1 := cell_of_row W6 (w.heap.size + 1) 1 _ 40 (0, 0) hr6
  have mf1 := frozen_of_row W6 (w.heap.size + 1) 1 _ 40 hr6
  have n1 := cell_of_row W6 w5.heap.size 1 _ 40 (0, 0) hn5
  have m2 := cell_of_row W6 (w.heap.size + 1) 2 _ 40 (0, 0) hr6
  have mf2 := frozen_of_row W6 (w.heap.size + 1) 2 _ 40 hr6
  have n2 := cell_of_row W6 w5.heap.size 2 _ 40 (0, 0) hn5
  have m3 := cell_of_row W6 (w.heap.size + 1) 3 _ 40 (0, 0) hr6
  have mf3 := frozen_of_row W6 (w.heap.size + 1) 3 _ 40 hr6
  have n3 := cell_of_row W6 w5.heap.size 3 _ 40 (0, 0) hn5
  have m4 := cell_of_row W6 (w.heap.size + 1) 4 _ 40 (0, 0) hr6
  have mf4 := frozen_of_row W6 (w.heap.size + 1) 4 _ 40 hr6
  have n4 := cell_of_row W6 w5.heap.size 4 _ 40 (0, 0) hn5
  simp only [List.getElem?_toArray, List.getElem?_cons_succ, List.getElem?_cons_zero] at m0 m1 m2 m3 m4 n0 n1 n2 n3 n4
  have HR6 := hide (And.intro hr6 (And.intro hn5 hb5))
  clear hr6 hn5 hb5 hW6
  go_wp2
  refine bodyPost_ret (v := cnV C) (by
    have q5 := five_set HR6.out.1 (.int .i64 (C.add : Nat)) (.int .i64 (C.same : Nat)) (.int .i64 (C.other : Nat)) (.int .i64 (C.cyc : Nat)) (.int .i64 (C.full : Nat))
    generalize (((((W6.setCell ⟨w.heap.size + 1, 0, none⟩ (.int .i64 (C.add : Nat))).setCell ⟨w.heap.size + 1, 1, none⟩ (.int .i64 (C.same : Nat))).setCell ⟨w.heap.size + 1, 2, none⟩ (.int .i64 (C.other : Nat))).setCell ⟨w.heap.size + 1, 3, none⟩ (.int .i64 (C.cyc : Nat))).setCell ⟨w.heap.size + 1, 4, none⟩ (.int .i64 (C.full : Nat))) = W9 at q5 ⊢
    have m0 := cell_of_row W9 (w.heap.size + 1) 0 _ 40 (0, 0) q5
    have m1 := cell_of_row W9 (w.heap.size + 1) 1 _ 40 (0, 0) q5
    have m2 := cell_of_row W9 (w.heap.size + 1) 2 _ 40 (0, 0) q5
    have m3 := cell_of_row W9 (w.heap.size + 1) 3 _ 40 (0, 0) q5
    have m4 := cell_of_row W9 (w.heap.size + 1) 4 _ 40 (0, 0) q5
    have hz9 : w.heap.size + 1 < W9.heap.size := by have := (Array.getElem?_eq_some_iff.1 q5).1; exact this
    clear q5
    unfold cnV
    simp at m0 m1 m2 m3 m4
    simp [results, Tryz.results36, go_sem, m0, m1, m2, m3, m4, hz9]) rfl ⟨by rw [put1_new HX.out.2 HL.out, HC.out], insK kR R ⟨t, g, b, (putP [] cn0 ⟨t, i, p', s, en, nm⟩).1⟩, ?_⟩
  have hc9 := five_chg (HW5.out.1.belowed HR6.out.2.2) (.inr (by omega) : w.heap.size + 1 = bm ∨ w.heap.size ≤ w.heap.size + 1) (.int .i64 (C.add : Nat)) (.int .i64 (C.same : Nat)) (.int .i64 (C.other : Nat)) (.int .i64 (C.cyc : Nat)) (.int .i64 (C.full : Nat))
  have hd9 := five_chg (Chg.of_below HR6.out.2.2 (fun k => k = w.heap.size + 1)) (.inl rfl) (.int .i64 (C.add : Nat)) (.int .i64 (C.same : Nat)) (.int .i64 (C.other : Nat)) (.int .i64 (C.cyc : Nat)) (.int .i64 (C.full : Nat))
  have hf9 := HW5.out.2.1.chg hd9 (by omega) (by omega)
  have hm9 := HW5.out.2.2.chg hd9 (by omega)
  have hok := put1_ok HH.out.ok HX.out.1
  rw [put1_new HX.out.2 HL.out] at hok ⊢
  dsimp only at hok ⊢
  refine ⟨HH.out.new_ (g0 := 0) HX.out.2 hf9 (by omega) (by omega) hc9 hm9 hok, ?_, hc9.mono (fun k hk => .inl hk), fun k hk => ?_⟩
  · rw [insK_map Tr.pl kR_pl]
    rfl
  · rcases soS_ins HH.out.rises hk with h1 | h1 | h1
    · exact .inl h1
    · exact .inr (by rw [h1]; show w.heap.size ≤ g; omega)
    · exact .inr (by rw [h1]; show w.heap.size ≤ b; omega)
/-- put. -/
theorem sput_any {w : World} {gs bm : Nat} {R : List Tr} {x : Sp} (h : SoIs w gs bm R) (hx : x.ok = true) : Calls Tryz.prog 36 #[.pointer (some ⟨gs, 0, none⟩), spV x] w (SPutPost w gs bm R x) := by
  cases hf : fndK kR R x.t with
  | some y => exact sput_some h hx hf
  | none =>
    by_cases hL : 32 ≤ R.length
    · exact sput_full h hx hf hL
    · exact sput_new h hx hf hL
end Go.Proofs.YtimjplkehlgelaaGreat
