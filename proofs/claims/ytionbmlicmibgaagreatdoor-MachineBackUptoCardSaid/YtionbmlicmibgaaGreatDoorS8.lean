import Derived.Lib.SlKeysI
import Derived.Test.YtionbmlicmibgaaGreatDoorS7
import Derived.Test.YtionbmlicmibgaaGreatDoorShelf
namespace Go.Proofs.YtionbmlicmibgaaGreatDoor
set_option linter.unusedVariables false
set_option linter.unusedSimpArgs false
open Go.RowKit
theorem addV_one {L : List Sp} {x : Sp} {t : Int} (hx : x.ok = true) (ht : x.t = t) : addV t L [x] = .tuple #[cnV (putP L cn0 x).2, .int .i64 0] := by
  unfold addV
  rw [if_pos (by simp [hx, ht])]
  rfl
theorem addP_one {L : List Sp} {x : Sp} {t : Int} (hx : x.ok = true) (ht : x.t = t) : addP t L [x] = (putP L cn0 x).1 := by
  unfold addP
  rw [if_pos (by simp [hx, ht])]
  rfl
theorem sps_one6 (w : World) (x : Sp) : Sps (w.alloc (.cells #[.int .i64 x.t, .int .i64 x.i, .int .i64 x.p, .int .i64 x.s, .int .i64 x.e, .string x.n] 30)) (.slice (some ⟨w.heap.size, 0, none⟩) 1 1) [x] := by
  refine ⟨_, 1, rfl, Nat.le_refl _, by decide, (fun e => by cases e), fun _ => ⟨_, 0, rfl, fun i y hi => ?_⟩⟩
  match i, hi with
  | 0, hi =>
    simp at hi
    subst hi
    exact spAt_new w x
  | i + 1, hi => simp at hi
theorem sp_name {x : Sp} (hx : x.ok = true) : x.n.size ≤ 1100000 := by
  have := ((Sp.ok_iff x).1 hx).n2
  have h2 : x.nl.length = x.n.size := by simp [Sp.nl]
  omega
theorem put1_some {R : List Tr} {x : Sp} {y : Tr} (h : fndK kR R x.t = some y) : put1 (R.map Tr.pl) x = (insK kP (R.map Tr.pl) (x.t, (putP y.L cn0 x).1), (putP y.L cn0 x).2) := by
  unfold put1
  rw [fndK_map Tr.pl kR_pl, h]
  rfl
theorem put1_full {R : List Tr} {x : Sp} (h : fndK kR R x.t = none) (hl : 32 ≤ R.length) : put1 (R.map Tr.pl) x = (R.map Tr.pl, ⟨0, 0, 0, 0, 1⟩) := by
  unfold put1
  rw [fndK_map Tr.pl kR_pl, h]
  dsimp only [Option.map]
  rw [if_pos (by simpa using hl)]
theorem put1_new {R : List Tr} {x : Sp} (h : fndK kR R x.t = none) (hl : ¬ 32 ≤ R.length) : put1 (R.map Tr.pl) x = (insK kP (R.map Tr.pl) (x.t, (putP [] cn0 x).1), (putP [] cn0 x).2) := by
  unfold put1
  rw [fndK_map Tr.pl kR_pl, h]
  dsimp only [Option.map]
  rw [if_neg (by simpa using hl)]
def SPutPost (w : World) (gs bm : Nat) (R : List Tr) (x : Sp) (e : Ending) (w' : World) : Prop := e = .returned (cnV (put1 (R.map Tr.pl) x).2) ∧ ∃ R', SoTo w w' gs bm R R' (put1 (R.map Tr.pl) x).1
set_option maxRecDepth 200000 in
set_option maxHeartbeats 2000000 in
theorem sput_some {w : World} {gs bm : Nat} {R : List Tr} {x : Sp} {y : Tr} (h : SoIs w gs bm R) (hx : x.ok = true) (hf : fndK kR R x.t = some y) : Calls Tryz.prog 198 #[.pointer (some ⟨gs, 0, none⟩), spV x] w (SPutPost w gs bm R x) := by
  obtain ⟨hy, hyt⟩ := fndK_mem hf
  have hx' := (Sp.ok_iff x).1 hx
  have hwf : (Lit.int .i64 x.t).wf = true := WalkArith.wf_i64 (by have := hx'.t1; have := hx'.t2; omega)
  have hZ1 := ((Below.refl w.heap.size w).alloc (Nat.le_refl _) (.cells #[.int .i64 x.t, .int .i64 x.i, .int .i64 x.p, .int .i64 x.s, .int .i64 x.e, .string x.n] 30))
  have hZ0 := hZ1.alloc hZ1.size (.cells #[.int .i64 0, .int .i64 0, .int .i64 0, .int .i64 0, .int .i64 0] 64)
  have hr0 := heap_alloc_new w (.cells #[.int .i64 x.t, .int .i64 x.i, .int .i64 x.p, .int .i64 x.s, .int .i64 x.e, .string x.n] 30)
  have hr1 := heap_alloc_new (w.alloc (.cells #[.int .i64 x.t, .int .i64 x.i, .int .i64 x.p, .int .i64 x.s, .int .i64 x.e, .string x.n] 30)) (.cells #[.int .i64 0, .int .i64 0, .int .i64 0, .int .i64 0, .int .i64 0] 64)
  have hs0 := spAt_new w x
  obtain ⟨Z, hZ⟩ : ∃ Z, (w.alloc (.cells #[.int .i64 x.t, .int .i64 x.i, .int .i64 x.p, .int .i64 x.s, .int .i64 x.e, .string x.n] 30)).alloc (.cells #[.int .i64 0, .int .i64 0, .int .i64 0, .int .i64 0, .int .i64 0] 64) = Z := ⟨_, rfl⟩
  have hsZ : SpAt Z w.heap.size 0 x := by rw [← hZ]; exact hs0.below ((Below.refl _ _).alloc (Nat.le_refl _) _)
  have hzs : Z.heap.size = w.heap.size + 2 := by rw [← hZ]; simp
  have hrZ : Z.heap[w.heap.size + 1]? = some (.cells #[.int .i64 0, .int .i64 0, .int .i64 0, .int .i64 0, .int .i64 0] 64) := by
    rw [← hZ]
    simpa using hr1
  rw [hZ] at hZ0
  have hSZ := h.below hZ0
  have c0 := hSZ.c0
  obtain ⟨D, hD⟩ := hSZ.map
  have hl := fun q => hD.look hwf q
  rw [hf] at hl
  have hl0 := hl 0
  have hfo := hSZ.fo y hy
  obtain ⟨z0, z1, z2, z3, z4, z5⟩ := hsZ.z
  have HZ := hide hZ
  have HH := hide h
  have HX := hide (And.intro hx (And.intro hy (And.intro (show x.t = y.t from hyt.symm) hf)))
  have HZZ := hide (And.intro hZ0 (And.intro hzs hrZ))
  have HFO := hide hfo
  have HSZ := hide hSZ
  clear h hx hx' hwf hZ0 hr0 hr1 hs0 hsZ hrZ hSZ hD hfo hZ hzs hf hyt hy hZ1
  obtain ⟨t, i, p', s, en, nm⟩ := x
  unfold spV ptrV Tr.v at *
  dsimp only at *
  go_enter Tryz.func198, Tryz.ntmps198
  go_wp2_with fail
  rw [HZ.out]
  go_quiet (fail)
  go_wp2_with fail
  have hA := add_any ((HFO.out.drewN nq).below ((Below.refl _ _).alloc (Nat.le_refl _) (.cells #[.int .i64 t, .int .i64 i, .int .i64 p', .int .i64 s, .int .i64 en, .string nm] 30))) (sps_one6 (Z.drewN nq) ⟨t, i, p', s, en, nm⟩) (by simp) (fun x hx => by
    simp only [List.mem_cons, List.not_mem_nil, or_false] at hx
    subst hx
    exact sp_name HX.out.1)
  refine hA.mono ?_
  clear hA
  rintro e5 w5 ⟨he5, hf5, hc5⟩
  obtain ⟨C, hC⟩ : ∃ C, (putP y.L cn0 ⟨t, i, p', s, en, nm⟩).2 = C := ⟨_, rfl⟩
  obtain rfl : e5 = .returned (.tuple #[.agg #[.int .i64 (C.add : Nat), .int .i64 (C.same : Nat), .int .i64 (C.other : Nat), .int .i64 (C.cyc : Nat), .int .i64 (C.full : Nat)], .int .i64 0]) := by
    rw [addV_one HX.out.1 HX.out.2.2.1, hC] at he5
    exact he5
  rw [addP_one HX.out.1 HX.out.2.2.1] at hf5
  have HC := hide hC
  have hcZ : Chg w w5 (fun k => k = y.b) := (((Chg.of_below HZZ.out.1 (fun k => k = y.b)).drewN nq).alloc _).trans hc5 (fun k hk => .inl hk)
  have hyl := (HH.out.fo y HX.out.2.1).lt
  have hr5 : w5.heap[w.heap.size + 1]? = some (.cells #[.int .i64 0, .int .i64 0, .int .i64 0, .int .i64 0, .int .i64 0] 64) := by
    have hb := ((Below.refl (Z.drewN nq).heap.size (Z.drewN nq)).alloc (Nat.le_refl _) (.cells #[.int .i64 t, .int .i64 i, .int .i64 p', .int .i64 s, .int .i64 en, .string nm] 30))
    have hzs := HZZ.out.2.1
    rw [hc5.block (w.heap.size + 1) (by simp; omega) (by omega), hb.block (w.heap.size + 1) (by show w.heap.size + 1 < Z.heap.size; omega)]
    exact HZZ.out.2.2
  have HW5 := hide (And.intro hcZ (And.intro hf5 hyl))
  have hz5 : w.heap.size + 1 < w5.heap.size := (Array.getElem?_eq_some_iff.1 hr5).1
  have hb5 := (Below.refl w5.heap.size w5).alloc (Nat.le_refl _) (.cells #[.int .i64 (C.add : Nat), .int .i64 (C.same : Nat), .int .i64 (C.other : Nat), .int .i64 (C.cyc : Nat), .int .i64 (C.full : Nat)] 64)
  have hn5 := heap_alloc_new w5 (.cells #[.int .i64 (C.add : Nat), .int .i64 (C.same : Nat), .int .i64 (C.other : Nat), .int .i64 (C.cyc : Nat), .int .i64 (C.full : Nat)] 64)
  have hr6 := (hb5.block (w.heap.size + 1) hz5).trans hr5
  clear he5 hf5 hc5 hC hcZ hyl hr5
  go_upto_region 8 with fail
  obtain ⟨W6, hW6⟩ : ∃ W6, w5.alloc (.cells #[.int .i64 (C.add : Nat), .int .i64 (C.same : Nat), .int .i64 (C.other : Nat), .int .i64 (C.cyc : Nat), .int .i64 (C.full : Nat)] 64) = W6 := ⟨_, rfl⟩
  rw [hW6] at hb5 hn5 hr6 ⊢
  have m0 := cell_of_row W6 (w.heap.size + 1) 0 _ 64 (0, 0) hr6
  have mf0 := frozen_of_row W6 (w.heap.size + 1) 0 _ 64 hr6
  have n0 := cell_of_row W6 w5.heap.size 0 _ 64 (0, 0) hn5
  have m1 := cell_of_row W6 (w.heap.size + 1) 1 _ 64 (0, 0) hr6
  have mf1 := frozen_of_row W6 (w.heap.size + 1) 1 _ 64 hr6
  have n1 := cell_of_row W6 w5.heap.size 1 _ 64 (0, 0) hn5
  have m2 := cell_of_row W6 (w.heap.size + 1) 2 _ 64 (0, 0) hr6
  have mf2 := frozen_of_row W6 (w.heap.size + 1) 2 _ 64 hr6
  have n2 := cell_of_row W6 w5.heap.size 2 _ 64 (0, 0) hn5
  have m3 := cell_of_row W6 (w.heap.size + 1) 3 _ 64 (0, 0) hr6
  have mf3 := frozen_of_row W6 (w.heap.size + 1) 3 _ 64 hr6
  have n3 := cell_of_row W6 w5.heap.size 3 _ 64 (0, 0) hn5
  have m4 := cell_of_row W6 (w.heap.size + 1) 4 _ 64 (0, 0) hr6
  have mf4 := frozen_of_row W6 (w.heap.size + 1) 4 _ 64 hr6
  have n4 := cell_of_row W6 w5.heap.size 4 _ 64 (0, 0) hn5
  simp only [List.getElem?_toArray, List.getElem?_cons_succ, List.getElem?_cons_zero] at m0 m1 m2 m3 m4 n0 n1 n2 n3 n4
  have HR6 := hide (And.intro hr6 (And.intro hn5 hb5))
  clear hr6 hn5 hb5 hW6
  go_wp2
  refine bodyPost_ret (v := cnV C) (by
    have q5 := five_set HR6.out.1 (.int .i64 (C.add : Nat)) (.int .i64 (C.same : Nat)) (.int .i64 (C.other : Nat)) (.int .i64 (C.cyc : Nat)) (.int .i64 (C.full : Nat))
    generalize (((((W6.setCell ⟨w.heap.size + 1, 0, none⟩ (.int .i64 (C.add : Nat))).setCell ⟨w.heap.size + 1, 1, none⟩ (.int .i64 (C.same : Nat))).setCell ⟨w.heap.size + 1, 2, none⟩ (.int .i64 (C.other : Nat))).setCell ⟨w.heap.size + 1, 3, none⟩ (.int .i64 (C.cyc : Nat))).setCell ⟨w.heap.size + 1, 4, none⟩ (.int .i64 (C.full : Nat))) = W9 at q5 ⊢
    have m0 := cell_of_row W9 (w.heap.size + 1) 0 _ 64 (0, 0) q5
    have m1 := cell_of_row W9 (w.heap.size + 1) 1 _ 64 (0, 0) q5
    have m2 := cell_of_row W9 (w.heap.size + 1) 2 _ 64 (0, 0) q5
    have m3 := cell_of_row W9 (w.heap.size + 1) 3 _ 64 (0, 0) q5
    have m4 := cell_of_row W9 (w.heap.size + 1) 4 _ 64 (0, 0) q5
    have hz9 : w.heap.size + 1 < W9.heap.size := by have := (Array.getElem?_eq_some_iff.1 q5).1; exact this
    clear q5
    unfold cnV
    simp at m0 m1 m2 m3 m4
    simp [results, Tryz.results198, go_sem, m0, m1, m2, m3, m4, hz9]) rfl ⟨by rw [put1_some HX.out.2.2.2, HC.out], insK kR R { y with L := (putP y.L cn0 ⟨t, i, p', s, en, nm⟩).1 }, ?_⟩
  have hc9 := five_chg (HW5.out.1.belowed HR6.out.2.2) (.inr (by omega) : w.heap.size + 1 = y.b ∨ w.heap.size ≤ w.heap.size + 1) (.int .i64 (C.add : Nat)) (.int .i64 (C.same : Nat)) (.int .i64 (C.other : Nat)) (.int .i64 (C.cyc : Nat)) (.int .i64 (C.full : Nat))
  have hf9 := HW5.out.2.1.chg (five_chg (Chg.of_below HR6.out.2.2 (fun k => k = w.heap.size + 1)) (.inl rfl) (.int .i64 (C.add : Nat)) (.int .i64 (C.same : Nat)) (.int .i64 (C.other : Nat)) (.int .i64 (C.cyc : Nat)) (.int .i64 (C.full : Nat))) (by have := HW5.out.2.2.1; omega) (by have := HW5.out.2.2.2; omega)
  have hyt : y.t = t := HX.out.2.2.1.symm
  have hok := put1_ok HH.out.ok HX.out.1
  rw [put1_some HX.out.2.2.2] at hok ⊢
  dsimp only at hok ⊢
  refine ⟨HH.out.with_ HX.out.2.1 hf9 hc9 (by rw [hyt]; exact hok), ?_, hc9.mono (fun k hk => .inr ⟨y, HX.out.2.1, hk⟩), fun k hk => ?_⟩
  · rw [insK_map Tr.pl kR_pl]
    show insK kP (R.map Tr.pl) (y.t, _) = _
    rw [hyt]
  · rcases soS_ins HH.out.rises hk with h1 | h1 | h1
    · exact .inl h1
    · exact .inl (.inr (.inr ⟨y, HX.out.2.1, .inl h1⟩))
    · exact .inl (.inr (.inr ⟨y, HX.out.2.1, .inr h1⟩))
set_option maxRecDepth 200000 in
set_option maxHeartbeats 2000000 in
theorem sput_full {w : World} {gs bm : Nat} {R : List Tr} {x : Sp} (h : SoIs w gs bm R) (hx : x.ok = true) (hf : fndK kR R x.t = none) (hL : 32 ≤ R.length) : Calls Tryz.prog 198 #[.pointer (some ⟨gs, 0, none⟩), spV x] w (SPutPost w gs bm R x) := by
  have hx' := (Sp.ok_iff x).1 hx
  have hwf : (Lit.int .i64 x.t).wf = true := WalkArith.wf_i64 (by have := hx'.t1; have := hx'.t2; omega)
  have hZ1 := ((Below.refl w.heap.size w).alloc (Nat.le_refl _) (.cells #[.int .i64 x.t, .int .i64 x.i, .int .i64 x.p, .int .i64 x.s, .int .i64 x.e, .string x.n] 30))
  have hZ0 := hZ1.alloc hZ1.size (.cells #[.int .i64 0, .int .i64 0, .int .i64 0, .int .i64 0, .int .i64 0] 64)
  have hr0 := heap_alloc_new w (.cells #[.int .i64 x.t, .int .i64 x.i, .int .i64 x.p, .int .i64 x.s, .int .i64 x.e, .string x.n] 30)
  have hr1 := heap_alloc_new (w.alloc (.cells #[.int .i64 x.t, .int .i64 x.i, .int .i64 x.p, .int .i64 x.s, .int .i64 x.e, .string x.n] 30)) (.cells #[.int .i64 0, .int .i64 0, .int .i64 0, .int .i64 0, .int .i64 0] 64)
  have hs0 := spAt_new w x
  obtain ⟨Z, hZ⟩ : ∃ Z, (w.alloc (.cells #[.int .i64 x.t, .int .i64 x.i, .int .i64 x.p, .int .i64 x.s, .int .i64 x.e, .string x.n] 30)).alloc (.cells #[.int .i64 0, .int .i64 0, .int .i64 0, .int .i64 0, .int .i64 0] 64) = Z := ⟨_, rfl⟩
  have hsZ : SpAt Z w.heap.size 0 x := by rw [← hZ]; exact hs0.below ((Below.refl _ _).alloc (Nat.le_refl _) _)
  have hzs : Z.heap.size = w.heap.size + 2 := by rw [← hZ]; simp
  have hrZ : Z.heap[w.heap.size + 1]? = some (.cells #[.int .i64 0, .int .i64 0, .int .i64 0, .int .i64 0, .int .i64 0] 64) := by
    rw [← hZ]
    simpa using hr1
  rw [hZ] at hZ0
  have hSZ := h.below hZ0
  have c0 := hSZ.c0
  obtain ⟨D, hD⟩ := hSZ.map
  have hl := fun q => hD.look hwf q
  rw [hf] at hl
  have hlen := fun q => (hD.drewN q).map.len Tryz.underlying168 3
  have HD := hide hD
  have hl0 := hl 0
  obtain ⟨z0, z1, z2, z3, z4, z5⟩ := hsZ.z
  have hL9 : (32 : Int) ≤ (R.length : Int) := by omega
  have HL := hide hL
  clear hL
  have HZ := hide hZ
  have HH := hide h
  have HX := hide (And.intro hx hf)
  have HZZ := hide (And.intro hZ0 (And.intro hzs hrZ))
  have HSZ := hide hSZ
  clear h hx hx' hwf hZ0 hr0 hr1 hs0 hsZ hrZ hSZ hD  hZ hzs hf hZ1
  obtain ⟨t, i, p', s, en, nm⟩ := x
  unfold spV ptrV at *
  dsimp only at *
  go_enter Tryz.func198, Tryz.ntmps198
  go_wp2_with fail
  rw [HZ.out]
  go_quiet (fail)
  have hlen1 := hlen nq
  obtain ⟨W, hW⟩ : ∃ W, Z.drewN nq = W := ⟨_, rfl⟩
  have hcW : W.cell? ⟨gs, 0, none⟩ = some (.map (some bm)) := by rw [← hW]; exact c0
  have hrW : W.heap[w.heap.size + 1]? = some (.cells #[.int .i64 0, .int .i64 0, .int .i64 0, .int .i64 0, .int .i64 0] 64) := by rw [← hW]; exact HZZ.out.2.2
  have hbW : Below w.heap.size w W := by rw [← hW]; exact HZZ.out.1.trans (bdrew Z nq)
  rw [HD.out.rd.size, hW] at hlen1
  rw [hW]
  have m0 := cell_of_row W (w.heap.size + 1) 0 _ 64 (0, 0) hrW
  have mf0 := frozen_of_row W (w.heap.size + 1) 0 _ 64 hrW
  have m1 := cell_of_row W (w.heap.size + 1) 1 _ 64 (0, 0) hrW
  have mf1 := frozen_of_row W (w.heap.size + 1) 1 _ 64 hrW
  have m2 := cell_of_row W (w.heap.size + 1) 2 _ 64 (0, 0) hrW
  have mf2 := frozen_of_row W (w.heap.size + 1) 2 _ 64 hrW
  have m3 := cell_of_row W (w.heap.size + 1) 3 _ 64 (0, 0) hrW
  have mf3 := frozen_of_row W (w.heap.size + 1) 3 _ 64 hrW
  have m4 := cell_of_row W (w.heap.size + 1) 4 _ 64 (0, 0) hrW
  have mf4 := frozen_of_row W (w.heap.size + 1) 4 _ 64 hrW
  simp only [List.getElem?_toArray, List.getElem?_cons_succ, List.getElem?_cons_zero] at m0 m1 m2 m3 m4
  have HRW := hide (And.intro hrW hbW)
  clear hrW hbW hW hlen hl hl0
  go_wp2
  refine bodyPost_ret (v := cnV ⟨0, 0, 0, 0, 1⟩) (by
    have q5 := five_set HRW.out.1 (.int .i64 0) (.int .i64 0) (.int .i64 0) (.int .i64 0) (.int .i64 1)
    generalize (((((W.setCell ⟨w.heap.size + 1, 0, none⟩ (.int .i64 0)).setCell ⟨w.heap.size + 1, 1, none⟩ (.int .i64 0)).setCell ⟨w.heap.size + 1, 2, none⟩ (.int .i64 0)).setCell ⟨w.heap.size + 1, 3, none⟩ (.int .i64 0)).setCell ⟨w.heap.size + 1, 4, none⟩ (.int .i64 1)) = W9 at q5 ⊢
    have m0 := cell_of_row W9 (w.heap.size + 1) 0 _ 64 (0, 0) q5
    have m1 := cell_of_row W9 (w.heap.size + 1) 1 _ 64 (0, 0) q5
    have m2 := cell_of_row W9 (w.heap.size + 1) 2 _ 64 (0, 0) q5
    have m3 := cell_of_row W9 (w.heap.size + 1) 3 _ 64 (0, 0) q5
    have m4 := cell_of_row W9 (w.heap.size + 1) 4 _ 64 (0, 0) q5
    have hz9 : w.heap.size + 1 < W9.heap.size := by have := (Array.getElem?_eq_some_iff.1 q5).1; exact this
    clear q5
    unfold cnV
    simp at m0 m1 m2 m3 m4
    simp [results, Tryz.results198, go_sem, m0, m1, m2, m3, m4, hz9]) rfl ⟨by rw [put1_full HX.out.2 HL.out], R, ?_⟩
  have hc9 := five_chg (Chg.of_below HRW.out.2 (fun _ => False)) (.inr (by omega) : False ∨ w.heap.size ≤ w.heap.size + 1) (.int .i64 0) (.int .i64 0) (.int .i64 0) (.int .i64 0) (.int .i64 1)
  rw [put1_full HX.out.2 HL.out]
  exact ⟨HH.out.chg hc9 (fun _ _ h => h), rfl, hc9.mono (fun k h => h.elim), fun k hk => .inl hk⟩
set_option maxRecDepth 200000 in
set_option maxHeartbeats 2000000 in
theorem sput_new {w : World} {gs bm : Nat} {R : List Tr} {x : Sp} (h : SoIs w gs bm R) (hx : x.ok = true) (hf : fndK kR R x.t = none) (hL : ¬ 32 ≤ R.length) : Calls Tryz.prog 198 #[.pointer (some ⟨gs, 0, none⟩), spV x] w (SPutPost w gs bm R x) := by
  have hx' := (Sp.ok_iff x).1 hx
  have hwf : (Lit.int .i64 x.t).wf = true := WalkArith.wf_i64 (by have := hx'.t1; have := hx'.t2; omega)
  have hZ1 := ((Below.refl w.heap.size w).alloc (Nat.le_refl _) (.cells #[.int .i64 x.t, .int .i64 x.i, .int .i64 x.p, .int .i64 x.s, .int .i64 x.e, .string x.n] 30))
  have hZ0 := hZ1.alloc hZ1.size (.cells #[.int .i64 0, .int .i64 0, .int .i64 0, .int .i64 0, .int .i64 0] 64)
  have hr0 := heap_alloc_new w (.cells #[.int .i64 x.t, .int .i64 x.i, .int .i64 x.p, .int .i64 x.s, .int .i64 x.e, .string x.n] 30)
  have hr1 := heap_alloc_new (w.alloc (.cells #[.int .i64 x.t, .int .i64 x.i, .int .i64 x.p, .int .i64 x.s, .int .i64 x.e, .string x.n] 30)) (.cells #[.int .i64 0, .int .i64 0, .int .i64 0, .int .i64 0, .int .i64 0] 64)
  have hs0 := spAt_new w x
  obtain ⟨Z, hZ⟩ : ∃ Z, (w.alloc (.cells #[.int .i64 x.t, .int .i64 x.i, .int .i64 x.p, .int .i64 x.s, .int .i64 x.e, .string x.n] 30)).alloc (.cells #[.int .i64 0, .int .i64 0, .int .i64 0, .int .i64 0, .int .i64 0] 64) = Z := ⟨_, rfl⟩
  have hsZ : SpAt Z w.heap.size 0 x := by rw [← hZ]; exact hs0.below ((Below.refl _ _).alloc (Nat.le_refl _) _)
  have hzs : Z.heap.size = w.heap.size + 2 := by rw [← hZ]; simp
  have hrZ : Z.heap[w.heap.size + 1]? = some (.cells #[.int .i64 0, .int .i64 0, .int .i64 0, .int .i64 0, .int .i64 0] 64) := by
    rw [← hZ]
    simpa using hr1
  rw [hZ] at hZ0
  have hSZ := h.below hZ0
  have c0 := hSZ.c0
  obtain ⟨D, hD⟩ := hSZ.map
  have hl := fun q => hD.look hwf q
  rw [hf] at hl
  have hlen := fun q => (hD.drewN q).map.len Tryz.underlying168 3
  have HD := hide hD
  have hl0 := hl 0
  obtain ⟨z0, z1, z2, z3, z4, z5⟩ := hsZ.z
  have HSP := hide hsZ
  have hL9 : ¬ (32 : Int) ≤ (R.length : Int) := by omega
  have HL := hide hL
  have HWF := hide hwf
  clear hL
  have HZ := hide hZ
  have HH := hide h
  have HX := hide (And.intro hx hf)
  have HZZ := hide (And.intro hZ0 (And.intro hzs hrZ))
  have HSZ := hide hSZ
  clear h hx hx' hwf hZ0 hr0 hr1 hs0 hsZ hrZ hSZ hD  hZ hzs hf hZ1
  obtain ⟨t, i, p', s, en, nm⟩ := x
  unfold spV ptrV at *
  dsimp only at *
  go_enter Tryz.func198, Tryz.ntmps198
  go_wp2_with fail
  rw [HZ.out]
  go_quiet (fail)
  have hlen1 := hlen nq
  obtain ⟨W, hW⟩ : ∃ W, Z.drewN nq = W := ⟨_, rfl⟩
  have hcW : W.cell? ⟨gs, 0, none⟩ = some (.map (some bm)) := by rw [← hW]; exact c0
  have htW : W.cell? ⟨w.heap.size, 0, none⟩ = some (.int .i64 t) := by rw [← hW]; exact z0
  have hsW : SpAt W w.heap.size 0 ⟨t, i, p', s, en, nm⟩ := by rw [← hW]; exact HSP.out
  have hrW : W.heap[w.heap.size + 1]? = some (.cells #[.int .i64 0, .int .i64 0, .int .i64 0, .int .i64 0, .int .i64 0] 64) := by rw [← hW]; exact HZZ.out.2.2
  have hbW : Below w.heap.size w W := by rw [← hW]; exact HZZ.out.1.trans (bdrew Z nq)
  have hzW : W.heap.size = w.heap.size + 2 := by rw [← hW]; exact HZZ.out.2.1
  have hDW : TrIs W bm R D := by rw [← hW]; exact HD.out.drewN nq
  rw [HD.out.rd.size, hW] at hlen1
  rw [hW]
  have HRW := hide (And.intro hrW (And.intro hbW (And.intro hzW (And.intro hDW (And.intro hcW hsW)))))
  clear hrW hbW hW hlen hl hl0 hzW hDW z0 z1 z2 z3 z4 z5 c0 hsW
  go_wp2_with fail
  refine (new_any (tr := t) (by have := ((Sp.ok_iff _).1 HX.out.1).t1; exact this) (by have := ((Sp.ok_iff _).1 HX.out.1).t2; exact this)).mono ?_
  rintro e2 w2 ⟨rfl, hf2, hb2⟩
  obtain ⟨g, hg⟩ : ∃ g, W.heap.size + 1 = g := ⟨_, rfl⟩
  obtain ⟨b, hb⟩ : ∃ b, W.heap.size = b := ⟨_, rfl⟩
  have hgw : w.heap.size + 2 < g := by have := HRW.out.2.2.1; omega
  have hbw : w.heap.size + 2 ≤ b := by have := HRW.out.2.2.1; omega
  rw [hg, hb] at hf2
  rw [hg]
  have hbW2 : Below W.heap.size W w2 := hb2
  have hDW2 : TrIs w2.drew bm R D := (HRW.out.2.2.2.1.below hb2).drewN 1
  obtain ⟨w3, D3, hrun, hg3, hm3⟩ := hDW2.store (x := ⟨t, g, b, []⟩) HWF.out (by simp [maxLen]; have := HL.out; omega)
  have c2 : w2.cell? ⟨gs, 0, none⟩ = some (.map (some bm)) := (hb2.cell (lt_of_cell hcW)).trans hcW
  have t2 : w2.cell? ⟨w.heap.size, 0, none⟩ = some (.int .i64 t) := (hb2.cell (lt_of_cell htW)).trans htW
  have H2 := hide (And.intro hf2 (And.intro hb2 (And.intro hg3 hm3)))
  clear hf2 hb2 hg3 hm3 hDW2 hbW2 hg hb hlen1 hL9 hcW htW
  dsimp only at hrun
  go_wp2_with fail
  go_region
  have hbm : bm < w.heap.size := HH.out.lt bm (.inr (.inl rfl))
  have hc3 : Chg w2 w3 (fun k => k = bm) := by
    have h3 : Chg w2.drew w3 (fun k => k = bm) := Chg.of_grown H2.out.2.2.1 _ (fun k e => by injection e with e; exact .inl e.symm)
    exact ⟨h3.os, h3.tape, h3.output, h3.size, h3.block⟩
  have hcW3 : Chg w w3 (fun k => k = bm) := (Chg.of_below (HRW.out.2.1.trans (H2.out.2.1.mono HRW.out.2.1.size)) (fun k => k = bm)).trans hc3 (fun k hk => .inl hk)
  have hz2 : w.heap.size + 2 ≤ w2.heap.size := by have := H2.out.2.1.size; have := HRW.out.2.2.1; omega
  have hr3 := (hc3.block (w.heap.size + 1) (by omega) (by omega)).trans ((H2.out.2.1.block (w.heap.size + 1) (by have := HRW.out.2.2.1; omega)).trans HRW.out.1)
  have hs3 : SpAt w3 w.heap.size 0 ⟨t, i, p', s, en, nm⟩ := fun k u hk => hc3.cell ((H2.out.2.1.cell (lt_of_cell (HRW.out.2.2.2.2.2 k u hk))).trans (HRW.out.2.2.2.2.2 k u hk)) (by show ¬ w.heap.size = bm; omega)
  have hf3 : FoIs w3 g b t [] := H2.out.1.chg hc3 (by omega) (by omega)
  have HF3 := hide hf3
  have H3 := hide (And.intro hcW3 (And.intro hr3 (And.intro (show w.heap.size + 2 ≤ w3.heap.size by have := hc3.size; omega) H2.out.2.2.2)))
  obtain ⟨z0, z1, z2, z3, z4, z5⟩ := hs3.z
  clear hc3 hcW3 hz2 hr3 hs3 hf3 hrun
  go_wp2_with fail
  have hA := add_any (HF3.out.below ((Below.refl _ _).alloc (Nat.le_refl _) (.cells #[.int .i64 t, .int .i64 i, .int .i64 p', .int .i64 s, .int .i64 en, .string nm] 30))) (sps_one6 w3 ⟨t, i, p', s, en, nm⟩) (by simp) (fun x hx => by
    simp only [List.mem_cons, List.not_mem_nil, or_false] at hx
    subst hx
    exact sp_name HX.out.1)
  refine hA.mono ?_
  clear hA
  rintro e5 w5 ⟨he5, hf5, hc5⟩
  obtain ⟨C, hC⟩ : ∃ C, (putP [] cn0 ⟨t, i, p', s, en, nm⟩).2 = C := ⟨_, rfl⟩
  have hxo := HX.out.1
  obtain rfl : e5 = .returned (.tuple #[.agg #[.int .i64 (C.add : Nat), .int .i64 (C.same : Nat), .int .i64 (C.other : Nat), .int .i64 (C.cyc : Nat), .int .i64 (C.full : Nat)], .int .i64 0]) := by
    rw [addV_one HX.out.1 rfl, hC] at he5
    exact he5
  rw [addP_one HX.out.1 rfl] at hf5
  have HC := hide hC
  have hb6 := (Below.refl w3.heap.size w3).alloc (Nat.le_refl _) (.cells #[.int .i64 t, .int .i64 i, .int .i64 p', .int .i64 s, .int .i64 en, .string nm] 30)
  have hc35 : Chg w3 w5 (fun k => k = b) := (Chg.of_below hb6 (fun k => k = b)).trans hc5 (fun k hk => .inl hk)
  have hcZ : Chg w w5 (fun k => k = bm) := H3.out.1.trans hc35 (fun k hk => .inr (by omega))
  have hr5 : w5.heap[w.heap.size + 1]? = some (.cells #[.int .i64 0, .int .i64 0, .int .i64 0, .int .i64 0, .int .i64 0] 64) := (hc35.block (w.heap.size + 1) (by have := H3.out.2.2.1; omega) (by omega)).trans H3.out.2.1
  have hm5 := H3.out.2.2.2.chg hc35 (by omega)
  have HW5 := hide (And.intro hcZ (And.intro hf5 hm5))
  have hz5 : w.heap.size + 1 < w5.heap.size := (Array.getElem?_eq_some_iff.1 hr5).1
  have hb5 := (Below.refl w5.heap.size w5).alloc (Nat.le_refl _) (.cells #[.int .i64 (C.add : Nat), .int .i64 (C.same : Nat), .int .i64 (C.other : Nat), .int .i64 (C.cyc : Nat), .int .i64 (C.full : Nat)] 64)
  have hn5 := heap_alloc_new w5 (.cells #[.int .i64 (C.add : Nat), .int .i64 (C.same : Nat), .int .i64 (C.other : Nat), .int .i64 (C.cyc : Nat), .int .i64 (C.full : Nat)] 64)
  have hr6 := (hb5.block (w.heap.size + 1) hz5).trans hr5
  clear he5 hf5 hc5 hC hcZ hr5 hb6 hc35 hm5
  go_upto_region 8 with fail
  obtain ⟨W6, hW6⟩ : ∃ W6, w5.alloc (.cells #[.int .i64 (C.add : Nat), .int .i64 (C.same : Nat), .int .i64 (C.other : Nat), .int .i64 (C.cyc : Nat), .int .i64 (C.full : Nat)] 64) = W6 := ⟨_, rfl⟩
  rw [hW6] at hb5 hn5 hr6 ⊢
  have m0 := cell_of_row W6 (w.heap.size + 1) 0 _ 64 (0, 0) hr6
  have mf0 := frozen_of_row W6 (w.heap.size + 1) 0 _ 64 hr6
  have n0 := cell_of_row W6 w5.heap.size 0 _ 64 (0, 0) hn5
  have m1 := cell_of_row W6 (w.heap.size + 1) 1 _ 64 (0, 0) hr6
  have mf1 := frozen_of_row W6 (w.heap.size + 1) 1 _ 64 hr6
  have n1 := cell_of_row W6 w5.heap.size 1 _ 64 (0, 0) hn5
  have m2 := cell_of_row W6 (w.heap.size + 1) 2 _ 64 (0, 0) hr6
  have mf2 := frozen_of_row W6 (w.heap.size + 1) 2 _ 64 hr6
  have n2 := cell_of_row W6 w5.heap.size 2 _ 64 (0, 0) hn5
  have m3 := cell_of_row W6 (w.heap.size + 1) 3 _ 64 (0, 0) hr6
  have mf3 := frozen_of_row W6 (w.heap.size + 1) 3 _ 64 hr6
  have n3 := cell_of_row W6 w5.heap.size 3 _ 64 (0, 0) hn5
  have m4 := cell_of_row W6 (w.heap.size + 1) 4 _ 64 (0, 0) hr6
  have mf4 := frozen_of_row W6 (w.heap.size + 1) 4 _ 64 hr6
  have n4 := cell_of_row W6 w5.heap.size 4 _ 64 (0, 0) hn5
  simp only [List.getElem?_toArray, List.getElem?_cons_succ, List.getElem?_cons_zero] at m0 m1 m2 m3 m4 n0 n1 n2 n3 n4
  have HR6 := hide (And.intro hr6 (And.intro hn5 hb5))
  clear hr6 hn5 hb5 hW6
  go_wp2
  refine bodyPost_ret (v := cnV C) (by
    have q5 := five_set HR6.out.1 (.int .i64 (C.add : Nat)) (.int .i64 (C.same : Nat)) (.int .i64 (C.other : Nat)) (.int .i64 (C.cyc : Nat)) (.int .i64 (C.full : Nat))
    generalize (((((W6.setCell ⟨w.heap.size + 1, 0, none⟩ (.int .i64 (C.add : Nat))).setCell ⟨w.heap.size + 1, 1, none⟩ (.int .i64 (C.same : Nat))).setCell ⟨w.heap.size + 1, 2, none⟩ (.int .i64 (C.other : Nat))).setCell ⟨w.heap.size + 1, 3, none⟩ (.int .i64 (C.cyc : Nat))).setCell ⟨w.heap.size + 1, 4, none⟩ (.int .i64 (C.full : Nat))) = W9 at q5 ⊢
    have m0 := cell_of_row W9 (w.heap.size + 1) 0 _ 64 (0, 0) q5
    have m1 := cell_of_row W9 (w.heap.size + 1) 1 _ 64 (0, 0) q5
    have m2 := cell_of_row W9 (w.heap.size + 1) 2 _ 64 (0, 0) q5
    have m3 := cell_of_row W9 (w.heap.size + 1) 3 _ 64 (0, 0) q5
    have m4 := cell_of_row W9 (w.heap.size + 1) 4 _ 64 (0, 0) q5
    have hz9 : w.heap.size + 1 < W9.heap.size := by have := (Array.getElem?_eq_some_iff.1 q5).1; exact this
    clear q5
    unfold cnV
    simp at m0 m1 m2 m3 m4
    simp [results, Tryz.results198, go_sem, m0, m1, m2, m3, m4, hz9]) rfl ⟨by rw [put1_new HX.out.2 HL.out, HC.out], insK kR R ⟨t, g, b, (putP [] cn0 ⟨t, i, p', s, en, nm⟩).1⟩, ?_⟩
  have hc9 := five_chg (HW5.out.1.belowed HR6.out.2.2) (.inr (by omega) : w.heap.size + 1 = bm ∨ w.heap.size ≤ w.heap.size + 1) (.int .i64 (C.add : Nat)) (.int .i64 (C.same : Nat)) (.int .i64 (C.other : Nat)) (.int .i64 (C.cyc : Nat)) (.int .i64 (C.full : Nat))
  have hd9 := five_chg (Chg.of_below HR6.out.2.2 (fun k => k = w.heap.size + 1)) (.inl rfl) (.int .i64 (C.add : Nat)) (.int .i64 (C.same : Nat)) (.int .i64 (C.other : Nat)) (.int .i64 (C.cyc : Nat)) (.int .i64 (C.full : Nat))
  have hf9 := HW5.out.2.1.chg hd9 (by omega) (by omega)
  have hm9 := HW5.out.2.2.chg hd9 (by omega)
  have hok := put1_ok HH.out.ok HX.out.1
  rw [put1_new HX.out.2 HL.out] at hok ⊢
  dsimp only at hok ⊢
  refine ⟨HH.out.new_ (g0 := 0) HX.out.2 hf9 (by omega) (by omega) hc9 hm9 hok, ?_, hc9.mono (fun k hk => .inl hk), fun k hk => ?_⟩
  · rw [insK_map Tr.pl kR_pl]
    rfl
  · rcases soS_ins HH.out.rises hk with h1 | h1 | h1
    · exact .inl h1
    · exact .inr (by rw [h1]; show w.heap.size ≤ g; omega)
    · exact .inr (by rw [h1]; show w.heap.size ≤ b; omega)
theorem sput_any {w : World} {gs bm : Nat} {R : List Tr} {x : Sp} (h : SoIs w gs bm R) (hx : x.ok = true) : Calls Tryz.prog 198 #[.pointer (some ⟨gs, 0, none⟩), spV x] w (SPutPost w gs bm R x) := by
  cases hf : fndK kR R x.t with
  | some y => exact sput_some h hx hf
  | none =>
    by_cases hL : 32 ≤ R.length
    · exact sput_full h hx hf hL
    · exact sput_new h hx hf hL
end Go.Proofs.YtionbmlicmibgaaGreatDoor
namespace Go.Proofs.YtionbmlicmibgaaGreatDoor
set_option linter.unusedVariables false
set_option linter.unusedSimpArgs false
open Go.RowKit
section
variable {w w' : World} {gs bm : Nat} {R R' : List Tr}
theorem SoTo.sets {w2 : World} {S' : List Pl} {r : Nat} (h : SoTo w w' gs bm R R' S') (hc : Chg w' w2 fun k => k = r) (hr : ¬ SoS gs bm R' r) (hw : w.heap.size ≤ r) : SoTo w w2 gs bm R R' S' :=
  ⟨h.is.chg hc fun k hk e => hr (e ▸ hk), h.pl, h.chg.trans hc fun k hk => .inr (hk ▸ hw), h.new⟩
theorem CnAt.keep (h : SoIs w gs bm R) (hc : Chg w w' (SoM bm R)) {g : Nat} {c : Cn} (hn : CnAt w g c) : CnAt w' g c :=
  have hb : w'.heap[g]? = w.heap[g]? := hc.block g (lt_of_cell hn.c0) (h.ne_cell hn.c0)
  ⟨(World.cell?_of_block hb).trans hn.c0, (World.cell?_of_block hb).trans hn.c1, (World.cell?_of_block hb).trans hn.c2, (World.cell?_of_block hb).trans hn.c3, (World.cell?_of_block hb).trans hn.c4, fun k hk => (World.frozen?_of_block (a := ⟨g, k, none⟩) hb).trans (hn.fr k hk)⟩
theorem row_keep (h : SoIs w gs bm R) (hc : Chg w w' (SoM bm R)) {g : Nat} {cs : Array Value} {ty : TypeId} {m : Nat × Nat} (hr : w.heap[g]? = some (.cells cs ty m)) {u : Value} (hu : w.cell? ⟨g, 0, none⟩ = some u) : w'.heap[g]? = some (.cells cs ty m) :=
  (hc.block g (Array.getElem?_eq_some_iff.1 hr).1 (h.ne_cell hu)).trans hr
theorem CnAt.p0 {g : Nat} {c : Cn} (h : CnAt w g c) (n : Nat) : CnAt (w.setCell ⟨g, 0, none⟩ (.int .i64 (n : Nat))) g { c with add := n } :=
  ⟨by rw [World.cell?_setCell_same (h := h.c0)], by rw [World.cell?_setCell_other _ _ _ _ (by simp)]; exact h.c1, by rw [World.cell?_setCell_other _ _ _ _ (by simp)]; exact h.c2, by rw [World.cell?_setCell_other _ _ _ _ (by simp)]; exact h.c3, by rw [World.cell?_setCell_other _ _ _ _ (by simp)]; exact h.c4, fun k hk => by rw [World.frozen?_setCell]; exact h.fr k hk⟩
theorem CnAt.p1 {g : Nat} {c : Cn} (h : CnAt w g c) (n : Nat) : CnAt (w.setCell ⟨g, 1, none⟩ (.int .i64 (n : Nat))) g { c with same := n } :=
  ⟨by rw [World.cell?_setCell_other _ _ _ _ (by simp)]; exact h.c0, by rw [World.cell?_setCell_same (h := h.c1)], by rw [World.cell?_setCell_other _ _ _ _ (by simp)]; exact h.c2, by rw [World.cell?_setCell_other _ _ _ _ (by simp)]; exact h.c3, by rw [World.cell?_setCell_other _ _ _ _ (by simp)]; exact h.c4, fun k hk => by rw [World.frozen?_setCell]; exact h.fr k hk⟩
theorem CnAt.p2 {g : Nat} {c : Cn} (h : CnAt w g c) (n : Nat) : CnAt (w.setCell ⟨g, 2, none⟩ (.int .i64 (n : Nat))) g { c with other := n } :=
  ⟨by rw [World.cell?_setCell_other _ _ _ _ (by simp)]; exact h.c0, by rw [World.cell?_setCell_other _ _ _ _ (by simp)]; exact h.c1, by rw [World.cell?_setCell_same (h := h.c2)], by rw [World.cell?_setCell_other _ _ _ _ (by simp)]; exact h.c3, by rw [World.cell?_setCell_other _ _ _ _ (by simp)]; exact h.c4, fun k hk => by rw [World.frozen?_setCell]; exact h.fr k hk⟩
theorem CnAt.p3 {g : Nat} {c : Cn} (h : CnAt w g c) (n : Nat) : CnAt (w.setCell ⟨g, 3, none⟩ (.int .i64 (n : Nat))) g { c with cyc := n } :=
  ⟨by rw [World.cell?_setCell_other _ _ _ _ (by simp)]; exact h.c0, by rw [World.cell?_setCell_other _ _ _ _ (by simp)]; exact h.c1, by rw [World.cell?_setCell_other _ _ _ _ (by simp)]; exact h.c2, by rw [World.cell?_setCell_same (h := h.c3)], by rw [World.cell?_setCell_other _ _ _ _ (by simp)]; exact h.c4, fun k hk => by rw [World.frozen?_setCell]; exact h.fr k hk⟩
theorem CnAt.p4 {g : Nat} {c : Cn} (h : CnAt w g c) (n : Nat) : CnAt (w.setCell ⟨g, 4, none⟩ (.int .i64 (n : Nat))) g { c with full := n } :=
  ⟨by rw [World.cell?_setCell_other _ _ _ _ (by simp)]; exact h.c0, by rw [World.cell?_setCell_other _ _ _ _ (by simp)]; exact h.c1, by rw [World.cell?_setCell_other _ _ _ _ (by simp)]; exact h.c2, by rw [World.cell?_setCell_other _ _ _ _ (by simp)]; exact h.c3, by rw [World.cell?_setCell_same (h := h.c4)], fun k hk => by rw [World.frozen?_setCell]; exact h.fr k hk⟩
theorem CnAt.set5 {g : Nat} {c : Cn} (h : CnAt w g c) (d : Cn) : CnAt (((((w.setCell ⟨g, 0, none⟩ (.int .i64 (d.add : Nat))).setCell ⟨g, 1, none⟩ (.int .i64 (d.same : Nat))).setCell ⟨g, 2, none⟩ (.int .i64 (d.other : Nat))).setCell ⟨g, 3, none⟩ (.int .i64 (d.cyc : Nat))).setCell ⟨g, 4, none⟩ (.int .i64 (d.full : Nat))) g d := ((((h.p0 d.add).p1 d.same).p2 d.other).p3 d.cyc).p4 d.full
end
def IngPost (w : World) (gs bm : Nat) (R : List Tr) (l : List Sp) (e : Ending) (w' : World) : Prop := e = .returned (.tuple #[cnV (ingC (R.map Tr.pl) l), .int .i64 (ingE l)]) ∧ ∃ R', SoTo w w' gs bm R R' (ingS (R.map Tr.pl) l)
set_option maxRecDepth 200000 in
set_option maxHeartbeats 4000000 in
theorem singest_any {w : World} {gs bm : Nat} {R : List Tr} {l : List Sp} {v : Value} (h : SoIs w gs bm R) (hv : Sps w v l) (hl : l.length ≤ 100000) (hnm : ∀ x ∈ l, x.n.size ≤ 1100000) :
    Calls Tryz.prog 181 #[.pointer (some ⟨gs, 0, none⟩), v] w (IngPost w gs bm R l) := by
  obtain ⟨p, n, c, rfl⟩ := hv.sl
  have hn := hv.len.1
  have hn1 : n ≤ 100000 := by omega
  have hB0 := (Below.refl w.heap.size w).alloc (Nat.le_refl _) (.cells #[.int .i64 0, .int .i64 0, .int .i64 0, .int .i64 0, .int .i64 0] 64)
  have hrow := heap_alloc_new w (.cells #[.int .i64 0, .int .i64 0, .int .i64 0, .int .i64 0, .int .i64 0] 64)
  have HMD := hide (smade_any (h.below hB0).c0)
  have HV := hide hv
  have HN := hide hn
  have HNM := hide hnm
  have HF := hide h
  have HB0 := hide hB0
  have HROW := hide hrow
  clear hv hn hnm h hB0 hrow hl
  go_enter Tryz.func181, Tryz.ntmps181
  go_wp2_with fail
  refine HMD.out.mono ?_
  rintro e1 w1 ⟨rfl, q0, rfl⟩
  obtain ⟨X, hX⟩ : ∃ X, (w.alloc (.cells #[.int .i64 0, .int .i64 0, .int .i64 0, .int .i64 0, .int .i64 0] 64)).drewN q0 = X := ⟨_, rfl⟩
  have HB1 : Hid (Below w.heap.size w X) := hide (by rw [← hX]; exact HB0.out.trans (bdrew _ q0))
  have HROW1 : Hid (X.heap[w.heap.size]? = some (.cells #[.int .i64 0, .int .i64 0, .int .i64 0, .int .i64 0, .int .i64 0] 64)) := hide (by rw [← hX]; exact HROW.out)
  have hXs : X.heap.size = w.heap.size + 1 := by rw [← hX]; simp
  have HXS := hide hXs
  rw [hX]
  clear hX hXs HB0 HROW HMD
  go_wp2_with fail
  go_loopw [7, 8, 18] (fun _ _ ix wr => ∃ k : Nat, k ≤ n ∧ ix = .int .i64 k ∧ Hid (Below X.heap.size X wr ∧ (l.take k).all Sp.ok = true)) (fun _ _ ix _ => n - (intOf ix).toNat)
  case atStart => exact ⟨0, by omega, rfl, hide ⟨Below.refl _ _, rfl⟩⟩
  case round =>
    obtain ⟨k, hk, rfl, HR⟩ := hrel
    by_cases hlt : (k : Int) < (n : Int)
    · obtain ⟨gv, ov, rfl, hx⟩ := HV.out.at_ (by omega)
      obtain ⟨x, hxk⟩ : ∃ x, l[k]? = some x := ⟨_, List.getElem?_eq_getElem (by have := HN.out; omega)⟩
      have hbw : Below w.heap.size w wr := HB1.out.trans (HR.out.1.mono (by have := HXS.out; omega))
      have hat := (hx k x hxk).below hbw
      obtain ⟨oo, hoo⟩ : ∃ oo, ov + k * 6 = oo := ⟨_, rfl⟩
      rw [hoo] at hat
      have z0 := hat.c0
      have z1 := hat.c1
      have z2 := hat.c2
      have z3 := hat.c3
      have z4 := hat.c4
      have z5 := hat.c5
      have HCK := hide (check_any x (HNM.out x (List.mem_of_getElem? hxk)))
      have hnew := spAt_new wr x
      obtain ⟨Y, hY⟩ : ∃ Y, wr.alloc (.cells #[.int .i64 x.t, .int .i64 x.i, .int .i64 x.p, .int .i64 x.s, .int .i64 x.e, .string x.n] 30) = Y := ⟨_, rfl⟩
      have hbY : Below wr.heap.size wr Y := by rw [← hY]; exact (Below.refl _ _).alloc (Nat.le_refl _) _
      rw [hY] at hnew
      obtain ⟨y0, y1, y2, y3, y4, y5⟩ := hnew.z
      have HYD := hide hY
      have HXK := hide hxk
      have HBY : Hid (Below X.heap.size X Y) := hide (HR.out.1.trans (hbY.mono HR.out.1.size))
      clear hx hxk hat hnew hbY hY hbw
      obtain ⟨t, i, p', s, en, nm⟩ := x
      dsimp only at *
      unfold spV at *
      dsimp only at *
      go_wp2_with fail
      rw [HYD.out]
      refine (HCK.out _).mono ?_
      rintro e7 w7 ⟨rfl, hb7⟩
      have HB7 : Hid (Below X.heap.size X w7) := hide (HBY.out.trans (hb7.mono HBY.out.size))
      clear hb7 HCK
      by_cases hok : Sp.ok ⟨t, i, p', s, en, nm⟩ = true
      · rw [if_pos hok]
        have HOK := hide hok
        clear hok
        go_wp2
        go_roundw
        case rel =>
          refine ⟨k + 1, by omega, by go_num, hide ⟨HB7.out, ?_⟩⟩
          have h1 : l.take (k + 1) = l.take k ++ [⟨t, i, p', s, en, nm⟩] := by rw [List.take_add_one, HXK.out]; rfl
          rw [h1, List.all_append, HR.out.2]
          simp only [List.all_cons, List.all_nil, Bool.and_true, Bool.true_and]
          exact HOK.out
        case measure => simp [intOf]; omega
      · have HBAD : Hid (¬ l.all Sp.ok = true) := hide (fun hall => hok (List.all_eq_true.1 hall _ (List.mem_of_getElem? HXK.out)))
        rw [if_neg hok]
        clear hok
        have hrw : w7.heap[w.heap.size]? = some (.cells #[.int .i64 0, .int .i64 0, .int .i64 0, .int .i64 0, .int .i64 0] 64) := ((HB7.out.block w.heap.size (by have := HXS.out; omega)).trans HROW1.out)
        have hbw9 : Below w.heap.size w w7 := HB1.out.trans (HB7.out.mono (by have := HXS.out; omega))
        have cb0 := cell_of_row w7 w.heap.size 0 _ 64 (0, 0) hrw
        have cbf0 := frozen_of_row w7 w.heap.size 0 _ 64 hrw
        have cb1 := cell_of_row w7 w.heap.size 1 _ 64 (0, 0) hrw
        have cbf1 := frozen_of_row w7 w.heap.size 1 _ 64 hrw
        have cb2 := cell_of_row w7 w.heap.size 2 _ 64 (0, 0) hrw
        have cbf2 := frozen_of_row w7 w.heap.size 2 _ 64 hrw
        have cb3 := cell_of_row w7 w.heap.size 3 _ 64 (0, 0) hrw
        have cbf3 := frozen_of_row w7 w.heap.size 3 _ 64 hrw
        have cb4 := cell_of_row w7 w.heap.size 4 _ 64 (0, 0) hrw
        have cbf4 := frozen_of_row w7 w.heap.size 4 _ 64 hrw
        have HRW := hide hrw
        have HBW9 := hide hbw9
        clear hrw hbw9
        go_wp2
        refine bodyPost_ret (v := .tuple #[cnV cn0, .int .i64 30]) (by
          have q5 := five_set HRW.out (.int .i64 0) (.int .i64 0) (.int .i64 0) (.int .i64 0) (.int .i64 0)
          generalize (((((w7.setCell ⟨w.heap.size, 0, none⟩ (.int .i64 0)).setCell ⟨w.heap.size, 1, none⟩ (.int .i64 0)).setCell ⟨w.heap.size, 2, none⟩ (.int .i64 0)).setCell ⟨w.heap.size, 3, none⟩ (.int .i64 0)).setCell ⟨w.heap.size, 4, none⟩ (.int .i64 0)) = W9 at q5 ⊢
          have m0 := cell_of_row W9 w.heap.size 0 _ 64 (0, 0) q5
          have m1 := cell_of_row W9 w.heap.size 1 _ 64 (0, 0) q5
          have m2 := cell_of_row W9 w.heap.size 2 _ 64 (0, 0) q5
          have m3 := cell_of_row W9 w.heap.size 3 _ 64 (0, 0) q5
          have m4 := cell_of_row W9 w.heap.size 4 _ 64 (0, 0) q5
          have hz9 : w.heap.size < W9.heap.size := by have := (Array.getElem?_eq_some_iff.1 q5).1; exact this
          clear q5
          unfold cnV
          simp at m0 m1 m2 m3 m4
          simp [results, Tryz.results181, go_sem, m0, m1, m2, m3, m4, hz9, cn0]) rfl ⟨by unfold ingC ingE; rw [if_neg HBAD.out, if_neg HBAD.out], R, ?_⟩
        have hc9 := five_chg (Chg.of_below HBW9.out (fun _ => False)) (.inr (Nat.le_refl w.heap.size)) (.int .i64 0) (.int .i64 0) (.int .i64 0) (.int .i64 0) (.int .i64 0)
        rw [ingS, if_neg HBAD.out]
        exact ⟨HF.out.chg hc9 (fun _ _ h => h), rfl, hc9.mono (fun k h => h.elim), fun k hk => .inl hk⟩
    · have hkn : k = n := by omega
      subst hkn
      have hall : l.all Sp.ok = true := by
        have := HR.out.2
        rwa [List.take_of_length_le (by have := HN.out; omega)] at this
      have hwr : Below w.heap.size w wr := HB1.out.trans (HR.out.1.mono (by have := HXS.out; omega))
      have hwrs : w.heap.size < wr.heap.size := by have := HR.out.1.size; have := HXS.out; omega
      have hZ0 : Below wr.heap.size wr (wr.alloc (.cells #[.int .i64 0, .int .i64 0, .int .i64 0, .int .i64 0, .int .i64 0] 64)) := (Below.refl _ _).alloc (Nat.le_refl _) _
      have hcn := cnAt_new wr
      have hZ1 : Below w.heap.size w (wr.alloc (.cells #[.int .i64 0, .int .i64 0, .int .i64 0, .int .i64 0, .int .i64 0] 64)) := hwr.trans (hZ0.mono (by omega))
      have hrowZ : (wr.alloc (.cells #[.int .i64 0, .int .i64 0, .int .i64 0, .int .i64 0, .int .i64 0] 64)).heap[w.heap.size]? = some (.cells #[.int .i64 0, .int .i64 0, .int .i64 0, .int .i64 0, .int .i64 0] 64 (0, 0)) :=
        (hZ0.block w.heap.size hwrs).trans ((HR.out.1.block w.heap.size (by have := HXS.out; omega)).trans HROW1.out)
      have hZs : (wr.alloc (.cells #[.int .i64 0, .int .i64 0, .int .i64 0, .int .i64 0, .int .i64 0] 64)).heap.size = wr.heap.size + 1 := by simp
      have HALL := hide hall
      clear hall hwr hZ0 HR
      go_wp2_with fail
      obtain ⟨Z, hZ⟩ : ∃ Z, wr.alloc (.cells #[.int .i64 0, .int .i64 0, .int .i64 0, .int .i64 0, .int .i64 0] 64) = Z := ⟨_, rfl⟩
      obtain ⟨gc, hgc⟩ : ∃ gc, wr.heap.size = gc := ⟨_, rfl⟩
      rw [hZ] at hcn hZ1 hrowZ hZs
      rw [hgc] at hcn hwrs hZs
      rw [hZ, hgc]
      have HZ := hide (And.intro hcn (And.intro hZ1 (And.intro hrowZ (HF.out.below hZ1))))
      clear hZ hgc hcn hZ1 hrowZ
      go_loopw [11, 31] (fun _ ix wz => ∃ j : Nat, j ≤ k ∧ ix = .int .i64 j ∧ Hid (∃ R', SoTo w wz gs bm R R' (puts (R.map Tr.pl) (l.take j)).1 ∧ (¬ SoS gs bm R' gc ∧ ¬ SoS gs bm R' w.heap.size) ∧ CnAt wz gc (puts (R.map Tr.pl) (l.take j)).2 ∧ wz.heap[w.heap.size]? = some (.cells #[.int .i64 0, .int .i64 0, .int .i64 0, .int .i64 0, .int .i64 0] 64 (0, 0)))) (fun _ ix _ => k - (intOf ix).toNat)
      case atStart => exact ⟨0, by omega, rfl, hide ⟨R, SoTo.of_below HF.out HZ.out.2.1, ⟨fun hk => by have := HF.out.lt _ hk; omega, fun hk => by have := HF.out.lt _ hk; omega⟩, HZ.out.1, HZ.out.2.2.1⟩⟩
      case round =>
        obtain ⟨j, hj, rfl, HR⟩ := hrel
        obtain ⟨R', hto, hnj, hcj, hrj⟩ := HR.out
        by_cases hlt2 : (j : Int) < (k : Int)
        · obtain ⟨gv, ov, rfl, hx⟩ := HV.out.at_ (by omega)
          obtain ⟨x, hxk⟩ : ∃ x, l[j]? = some x := ⟨_, List.getElem?_eq_getElem (by have := HN.out; omega)⟩
          have hat : SpAt wr gv (ov + j * 6) x := fun i u hu => HF.out.keep hto.chg (hx j x hxk i u hu)
          obtain ⟨oo, hoo⟩ : ∃ oo, ov + j * 6 = oo := ⟨_, rfl⟩
          rw [hoo] at hat
          have z0 := hat.c0
          have z1 := hat.c1
          have z2 := hat.c2
          have z3 := hat.c3
          have z4 := hat.c4
          have z5 := hat.c5
          have htk : l.take (j + 1) = l.take j ++ [x] := by rw [List.take_add_one, hxk]; rfl
          have hsum : (puts (R.map Tr.pl) (l.take j)).2.sum ≤ 1100000 := by
            rw [puts_sum, List.length_take]
            omega
          have hxok := List.all_eq_true.1 HALL.out x (List.mem_of_getElem? hxk)
          have hgcw := lt_of_cell hcj.c0
          dsimp only at hgcw
          have hnew := spAt_new wr x
          obtain ⟨Y, hY⟩ : ∃ Y, wr.alloc (.cells #[.int .i64 x.t, .int .i64 x.i, .int .i64 x.p, .int .i64 x.s, .int .i64 x.e, .string x.n] 30) = Y := ⟨_, rfl⟩
          have hbY : Below wr.heap.size wr Y := by rw [← hY]; exact (Below.refl _ _).alloc (Nat.le_refl _) _
          rw [hY] at hnew
          have hcY := hcj.below hbY
          have hrY := (hbY.block w.heap.size (by omega)).trans hrj
          have HTO := hide (hto.below hbY)
          have HNJ := hide hnj
          obtain ⟨C, hC⟩ : ∃ C, (puts (R.map Tr.pl) (l.take j)).2 = C := ⟨_, rfl⟩
          obtain ⟨S, hS⟩ : ∃ S, (puts (R.map Tr.pl) (l.take j)).1 = S := ⟨_, rfl⟩
          rw [hC] at hcY hsum
          rw [hS] at HTO
          have HPU : Hid (∀ V, Below Y.heap.size Y V → Calls Tryz.prog 198 #[.pointer (some ⟨gs, 0, none⟩), spV x] V (SPutPost V gs bm R' x)) := hide fun V hV => sput_any (HTO.out.is.below hV) hxok
          have HSU : Hid (∀ W (C1 : Cn), C1.sum ≤ 1100000 → Calls Tryz.prog 197 #[.agg #[.int .i64 (C.add : Nat), .int .i64 (C.same : Nat), .int .i64 (C.other : Nat), .int .i64 (C.cyc : Nat), .int .i64 (C.full : Nat)], .agg #[.int .i64 (C1.add : Nat), .int .i64 (C1.same : Nat), .int .i64 (C1.other : Nat), .int .i64 (C1.cyc : Nat), .int .i64 (C1.full : Nat)]] W fun e w' => e = .returned (cnV (C.plus C1)) ∧ Below W.heap.size W w') := hide fun W C1 h1 => sum_any W C C1 hsum h1
          obtain ⟨y0, y1, y2, y3, y4, y5⟩ := hnew.z
          have HCY := hide hcY
          obtain ⟨b0, b1, b2, b3, b4, bf⟩ := hcY
          have HYD := hide hY
          have HTK := hide htk
          have HY := hide (And.intro hC (And.intro hS (And.intro hrY (And.intro hnew hsum))))
          clear hx hxk hat htk hsum hxok hnew hY hbY hC hS hrY hto hcj hrj hnj
          obtain ⟨t, i, p', s, en, nm⟩ := x
          dsimp only at *
          unfold spV at *
          dsimp only at *
          go_wp2_with fail
          rw [HYD.out]
          have HR0 : Hid (Y.cell? ⟨w.heap.size, 0, none⟩ = some (.int .i64 0)) := hide (cell_of_row Y w.heap.size 0 _ 64 (0, 0) HY.out.2.2.1)
          go_region_law
            (first
              | (go_simp; go_at_call 198; refine (HPU.out _ (by first | exact Below.refl _ _ | exact bdrew _ 1)).mono ?_; intro e7 w7 hp7; obtain ⟨rfl, R7, h7⟩ := hp7; rw [HTO.out.pl] at h7 ⊢; have H7 : Hid (SoTo w w7 gs bm R R7 (put1 S ⟨t, i, p', s, en, nm⟩).1 ∧ CnAt w7 gc C ∧ w7.heap[w.heap.size]? = some (.cells #[.int .i64 0, .int .i64 0, .int .i64 0, .int .i64 0, .int .i64 0] 64 (0, 0))) := hide (by first | exact ⟨SoTo.trans HF.out HTO.out h7, CnAt.keep HTO.out.is h7.chg HCY.out, row_keep HTO.out.is h7.chg HY.out.2.2.1 HR0.out⟩ | exact ⟨SoTo.trans HF.out (HTO.out.below (bdrew Y 1)) h7, CnAt.keep (HTO.out.is.drewN 1) h7.chg (HCY.out.below (bdrew Y 1)), row_keep (HTO.out.is.drewN 1) h7.chg (show (Y.drewN 1).heap[w.heap.size]? = _ from HY.out.2.2.1) HR0.out⟩); have HN7 : Hid (¬ SoS gs bm R7 gc ∧ ¬ SoS gs bm R7 w.heap.size) := hide (by have hg1 := lt_of_cell HCY.out.c0; have hg2 := (Array.getElem?_eq_some_iff.1 HY.out.2.2.1).1; dsimp only at hg1; exact ⟨fun hk => by (rcases h7.new _ hk with h1 | h1); exact HNJ.out.1 h1; have hg3 : Y.heap.size ≤ gc := h1; omega, fun hk => by (rcases h7.new _ hk with h1 | h1); exact HNJ.out.2 h1; have hg3 : Y.heap.size ≤ w.heap.size := h1; omega⟩); have hn7 := H7.out.2.1; obtain ⟨C1, hC1⟩ : ∃ C1, (put1 S ⟨t, i, p', s, en, nm⟩).2 = C1 := ⟨_, rfl⟩; rw [hC1]; have HC1 := hide hC1; unfold cnV; have n0 := hn7.c0; have nf0 := hn7.fr 0 (by omega); have n1 := hn7.c1; have nf1 := hn7.fr 1 (by omega); have n2 := hn7.c2; have nf2 := hn7.fr 2 (by omega); have n3 := hn7.c3; have nf3 := hn7.fr 3 (by omega); have n4 := hn7.c4; have nf4 := hn7.fr 4 (by omega); clear hn7 h7 hC1)
              | (go_simp; go_at_call 197; refine (HSU.out _ C1 (by rw [← HC1.out, put1_sum]; omega)).mono ?_; rintro e8 w8 ⟨rfl, hb8⟩; have H8 := hide (And.intro (H7.out.1.below (by first | exact hb8 | exact (bdrew w7 1).trans hb8)) (And.intro (H7.out.2.1.below (by first | exact hb8 | exact (bdrew w7 1).trans hb8)) (((show Below w7.heap.size w7 w8 by first | exact hb8 | exact (bdrew w7 1).trans hb8).block w.heap.size (Array.getElem?_eq_some_iff.1 H7.out.2.2).1).trans H7.out.2.2))); have hn8 := H8.out.2.1; unfold cnV Cn.plus; dsimp only; have r0 := hn8.c0; have rf0 := hn8.fr 0 (by omega); have r1 := hn8.c1; have rf1 := hn8.fr 1 (by omega); have r2 := hn8.c2; have rf2 := hn8.fr 2 (by omega); have r3 := hn8.c3; have rf3 := hn8.fr 3 (by omega); have r4 := hn8.c4; have rf4 := hn8.fr 4 (by omega); clear hn8 hb8))
          all_goals
            have hs5 := CnAt.set5 H8.out.2.1 (C.plus C1)
            simp only [Cn.plus, Int.natCast_add] at hs5
            have hc9 := five_chg (Chg.refl w8 (fun k => k = gc)) (.inl rfl) (.int .i64 ((C.add : Int) + C1.add)) (.int .i64 ((C.same : Int) + C1.same)) (.int .i64 ((C.other : Int) + C1.other)) (.int .i64 ((C.cyc : Int) + C1.cyc)) (.int .i64 ((C.full : Int) + C1.full))
            have H9 : Hid (∃ R'', SoTo w ((((((w8.setCell ⟨gc, 0, none⟩ (.int .i64 ((C.add : Int) + C1.add))).setCell ⟨gc, 1, none⟩ (.int .i64 ((C.same : Int) + C1.same))).setCell ⟨gc, 2, none⟩ (.int .i64 ((C.other : Int) + C1.other))).setCell ⟨gc, 3, none⟩ (.int .i64 ((C.cyc : Int) + C1.cyc))).setCell ⟨gc, 4, none⟩ (.int .i64 ((C.full : Int) + C1.full)))) gs bm R R'' (puts (R.map Tr.pl) (l.take (j + 1))).1 ∧ (¬ SoS gs bm R'' gc ∧ ¬ SoS gs bm R'' w.heap.size) ∧ CnAt ((((((w8.setCell ⟨gc, 0, none⟩ (.int .i64 ((C.add : Int) + C1.add))).setCell ⟨gc, 1, none⟩ (.int .i64 ((C.same : Int) + C1.same))).setCell ⟨gc, 2, none⟩ (.int .i64 ((C.other : Int) + C1.other))).setCell ⟨gc, 3, none⟩ (.int .i64 ((C.cyc : Int) + C1.cyc))).setCell ⟨gc, 4, none⟩ (.int .i64 ((C.full : Int) + C1.full)))) gc (puts (R.map Tr.pl) (l.take (j + 1))).2 ∧ ((((((w8.setCell ⟨gc, 0, none⟩ (.int .i64 ((C.add : Int) + C1.add))).setCell ⟨gc, 1, none⟩ (.int .i64 ((C.same : Int) + C1.same))).setCell ⟨gc, 2, none⟩ (.int .i64 ((C.other : Int) + C1.other))).setCell ⟨gc, 3, none⟩ (.int .i64 ((C.cyc : Int) + C1.cyc))).setCell ⟨gc, 4, none⟩ (.int .i64 ((C.full : Int) + C1.full)))).heap[w.heap.size]? = some (.cells #[.int .i64 0, .int .i64 0, .int .i64 0, .int .i64 0, .int .i64 0] 64 (0, 0))) := hide (by
              rw [HTK.out, puts_snoc, HY.out.1, HY.out.2.1]
              dsimp only
              rw [HC1.out]
              refine ⟨R7, SoTo.sets H8.out.1 hc9 HN7.out.1 (by omega), HN7.out, hs5, ?_⟩
              exact (hc9.block w.heap.size (Array.getElem?_eq_some_iff.1 H8.out.2.2).1 (by omega)).trans H8.out.2.2)
            clear hs5 hc9
            go_wp2
            go_roundw
            case rel => exact ⟨j + 1, by omega, by go_num, H9⟩
            case measure => simp [intOf]; omega
        · have hjk : j = k := by omega
          subst hjk
          have htl : l.take j = l := List.take_of_length_le (by have := HN.out; omega)
          rw [htl] at hto hcj
          have HTO := hide (show SoTo w wr gs bm R R' (puts (R.map Tr.pl) l).1 from hto)
          have HNR := hide hnj.2
          obtain ⟨k0, k1, k2, k3, k4, kf⟩ := hcj
          have cb0 := cell_of_row wr w.heap.size 0 _ 64 (0, 0) hrj
          have cbf0 := frozen_of_row wr w.heap.size 0 _ 64 hrj
          have cb1 := cell_of_row wr w.heap.size 1 _ 64 (0, 0) hrj
          have cbf1 := frozen_of_row wr w.heap.size 1 _ 64 hrj
          have cb2 := cell_of_row wr w.heap.size 2 _ 64 (0, 0) hrj
          have cbf2 := frozen_of_row wr w.heap.size 2 _ 64 hrj
          have cb3 := cell_of_row wr w.heap.size 3 _ 64 (0, 0) hrj
          have cbf3 := frozen_of_row wr w.heap.size 3 _ 64 hrj
          have cb4 := cell_of_row wr w.heap.size 4 _ 64 (0, 0) hrj
          have cbf4 := frozen_of_row wr w.heap.size 4 _ 64 hrj
          obtain ⟨C, hC⟩ : ∃ C, (puts (R.map Tr.pl) l).2 = C := ⟨_, rfl⟩
          rw [hC] at k0 k1 k2 k3 k4
          have HC := hide hC
          have HRW := hide hrj
          clear htl HR hrj hnj hto hC
          go_wp2
          refine bodyPost_ret (v := .tuple #[cnV C, .int .i64 0]) (by
            have q5 := five_set HRW.out (.int .i64 (C.add : Nat)) (.int .i64 (C.same : Nat)) (.int .i64 (C.other : Nat)) (.int .i64 (C.cyc : Nat)) (.int .i64 (C.full : Nat))
            generalize (((((wr.setCell ⟨w.heap.size, 0, none⟩ (.int .i64 (C.add : Nat))).setCell ⟨w.heap.size, 1, none⟩ (.int .i64 (C.same : Nat))).setCell ⟨w.heap.size, 2, none⟩ (.int .i64 (C.other : Nat))).setCell ⟨w.heap.size, 3, none⟩ (.int .i64 (C.cyc : Nat))).setCell ⟨w.heap.size, 4, none⟩ (.int .i64 (C.full : Nat))) = W9 at q5 ⊢
            have m0 := cell_of_row W9 w.heap.size 0 _ 64 (0, 0) q5
            have m1 := cell_of_row W9 w.heap.size 1 _ 64 (0, 0) q5
            have m2 := cell_of_row W9 w.heap.size 2 _ 64 (0, 0) q5
            have m3 := cell_of_row W9 w.heap.size 3 _ 64 (0, 0) q5
            have m4 := cell_of_row W9 w.heap.size 4 _ 64 (0, 0) q5
            have hz9 : w.heap.size < W9.heap.size := by have := (Array.getElem?_eq_some_iff.1 q5).1; exact this
            clear q5
            unfold cnV
            simp at m0 m1 m2 m3 m4
            simp [results, Tryz.results181, go_sem, m0, m1, m2, m3, m4, hz9, cn0]) rfl ⟨by unfold ingC ingE; rw [if_pos HALL.out, if_pos HALL.out, HC.out], R', ?_⟩
          have hc9 := five_chg (Chg.refl wr (fun k => k = w.heap.size)) (.inl rfl) (.int .i64 (C.add : Nat)) (.int .i64 (C.same : Nat)) (.int .i64 (C.other : Nat)) (.int .i64 (C.cyc : Nat)) (.int .i64 (C.full : Nat))
          rw [ingS, if_pos HALL.out]
          exact SoTo.sets HTO.out hc9 HNR.out (Nat.le_refl _)
end Go.Proofs.YtionbmlicmibgaaGreatDoor
namespace Go.Proofs.YtionbmlicmibgaaGreatDoor
set_option linter.unusedVariables false
set_option linter.unusedSimpArgs false
open Go.RowKit
theorem keyR_inv {key : Value} {kl : Lit} (h : keyOf Tryz.prog 3 key = some kl) : ∃ x : Int, key = .int .i64 x := keyI_inv h
theorem RdR.came {D : DataW Value} {R : List Tr} (h : RdR D R) {k : Int} {a : Option Addr} {kl : Lit} {y : DataW Value × List MemPlace}
    (hk : keyOf Tryz.prog 3 (.int .i64 k) = some kl) (hv : heldP (.pointer a) = some y) (hat : ∀ zd, D.atKey kl zd = y.1) : ∃ x, x ∈ R ∧ k = x.t ∧ kl = .int .i64 x.t ∧ a = some ⟨x.g, 0, none⟩ := by
  obtain ⟨k', e, hkl, hwf⟩ := Maps.keyOf_int_inv Tryz.underlying3 hk
  injection e with _ e
  subst e
  subst hkl
  have hh := Maps.has_true_of_atKey hat
  rw [h.keys] at hh
  obtain ⟨x, hx⟩ := Option.isSome_iff_exists.1 hh
  have e1 := h.vals _ x hx .nil
  rw [hat, (heldP_ptr hv).2] at e1
  injection e1 with e1
  injection e1 with e1
  obtain ⟨h1, h2⟩ := fndK_mem hx
  exact ⟨x, h1, h2.symm, by rw [show x.t = k from h2], e1⟩
theorem RdR.del {D : DataW Value} {R : List Tr} (h : RdR D R) (ht : Maps.Tidy D) {x : Tr} (hx : x ∈ R) : RdR (D.del (.int .i64 x.t)) (R.filter fun y => decide (y.t ≠ x.t)) := by
  have hf : fndK kR R x.t = some x := fndK_of h.rises.ids hx
  refine ⟨?_, fun k => ?_, fun k y hy => ?_, h.rises.sub List.filter_sublist⟩
  · have h1 := Maps.size_del (k := .int .i64 x.t) ht
    rw [h.keys, hf, h.size] at h1
    have h2 : (R.filter fun y => decide (y.t ≠ x.t)).length + 1 = R.length := delK_filter h.rises hx
    simp at h1
    omega
  · rw [fndK_filter h.rises.ids]
    by_cases e : k = x.t
    · subst e
      rw [Maps.has_del_same, hf]
      simp [Option.filter_some]
    · rw [Maps.has_del_other (fun h => e (by injection h)), h.keys]
      cases hk : fndK kR R k with
      | none => rfl
      | some y =>
        have : y.t = k := (fndK_mem hk).2
        simp [this, e, Option.filter_some]
  · rw [fndK_filter h.rises.ids] at hy
    intro z
    have hne : k ≠ x.t := by
      intro e
      subst e
      rw [hf, Option.filter_some] at hy
      simp at hy
    rw [Maps.atKey_del_other (fun h => hne (by injection h))]
    refine h.vals k y ?_ z
    cases hk : fndK kR R k with
    | none => rw [hk] at hy; simp at hy
    | some u =>
      rw [hk, Option.filter_some] at hy
      split at hy
      · exact hy
      · simp at hy
def retR (R : List Tr) (f : Int) : List Tr := R.filter fun x => decide (f ≤ endP x.L)
theorem retR_pl (R : List Tr) (f : Int) : (retR R f).map Tr.pl = retS (R.map Tr.pl) f := by
  unfold retR retS
  rw [List.filter_map]
  rfl
def curR (R : List Tr) (left : Lit → Bool) (f : Int) : List Tr := R.filter fun x => left (.int .i64 x.t) || decide (f ≤ endP x.L)
theorem curR_all {R : List Tr} {left : Lit → Bool} {f : Int} (h : ∀ x ∈ R, left (.int .i64 x.t) = true) : curR R left f = R := List.filter_eq_self.2 fun x hx => by rw [h x hx]; rfl
theorem curR_none {R : List Tr} {left : Lit → Bool} {f : Int} (h : ∀ k, left k = false) : curR R left f = retR R f := List.filter_congr fun x hx => by rw [h]; rfl
theorem curR_stay {R : List Tr} (h : RisesK kR R) {left : Lit → Bool} {f : Int} {x : Tr} (hx : x ∈ R) (hf : f ≤ endP x.L) : curR R (fun z => left z && !z.sameKey (.int .i64 x.t)) f = curR R left f := by
  refine List.filter_congr fun y hy => ?_
  dsimp only
  rw [same_int]
  by_cases e : y.t = x.t
  · obtain rfl := eq_of_idK h hy hx e
    simp [hf]
  · simp [e]
theorem curR_go {R : List Tr} (h : RisesK kR R) {left : Lit → Bool} {f : Int} {x : Tr} (hx : x ∈ R) (hf : endP x.L < f) : curR R (fun z => left z && !z.sameKey (.int .i64 x.t)) f = (curR R left f).filter fun y => decide (y.t ≠ x.t) := by
  unfold curR
  rw [List.filter_filter]
  refine List.filter_congr fun y hy => ?_
  dsimp only
  rw [same_int]
  by_cases e : y.t = x.t
  · obtain rfl := eq_of_idK h hy hx e
    simp
    omega
  · simp [e]
theorem curR_le (R : List Tr) (left : Lit → Bool) (f : Int) : (curR R left f).length ≤ R.length := List.length_filter_le _ _
theorem SoIs.filter {w w' : World} {gs bm : Nat} {R : List Tr} (h : SoIs w gs bm R) (f : Int) {D : DataW Value} (hc : Chg w w' fun k => k = bm) (hm : TrIs w' bm (retR R f) D) : SoTo w w' gs bm R (retR R f) (retS (R.map Tr.pl) f) := by
  have hmem : ∀ x ∈ retR R f, x ∈ R := fun x hx => (List.mem_filter.1 hx).1
  refine ⟨⟨hc.cell h.c0 h.ne, h.ne, ⟨D, hm⟩, fun x hx => (h.fo x (hmem x hx)).chg hc (h.off x (hmem x hx)).2.1 (h.off x (hmem x hx)).2.2.2, fun x hx => h.off x (hmem x hx), fun x hx y hy => h.ap x (hmem x hx) y (hmem y hy), ?_⟩, retR_pl R f, hc.mono fun k hk => .inl hk, fun k hk => ?_⟩
  · rw [retR_pl]
    exact retS_ok h.ok f
  · rcases hk with h1 | h1 | ⟨x, hx, h1⟩
    · exact .inl (.inl h1)
    · exact .inl (.inr (.inl h1))
    · exact .inl (.inr (.inr ⟨x, hmem x hx, h1⟩))
def RetPost (w : World) (gs bm : Nat) (R : List Tr) (f : Int) (e : Ending) (w' : World) : Prop := e = .returned (.int .i64 ((R.length : Int) - (retR R f).length)) ∧ SoTo w w' gs bm R (retR R f) (retS (R.map Tr.pl) f)
set_option maxRecDepth 200000 in
set_option maxHeartbeats 2000000 in
theorem sretain_any {w : World} {gs bm : Nat} {R : List Tr} (h : SoIs w gs bm R) (f : Int) : Calls Tryz.prog 151 #[.pointer (some ⟨gs, 0, none⟩), .int .i64 f] w (RetPost w gs bm R f) := by
  have HM := hide (smade_any h.c0)
  have HH := hide h
  have hL8 := h.len
  have HRI := hide h.rises
  clear h
  go_enter Tryz.func151, Tryz.ntmps151
  go_wp2_with fail
  refine HM.out.mono ?_
  rintro e X ⟨rfl, q, hq⟩
  have hcX : Below w.heap.size w X := by rw [hq]; exact bdrew w q
  clear hq
  have hX := HH.out.below hcX
  have c0 := hX.c0
  obtain ⟨D, hD⟩ := hX.map
  have hown := hD.map
  have HD := hide hD
  have HX := hide hX
  have HCX := hide hcX
  have hbX := hX.lt bm (.inr (.inl rfl))
  have hgX := hX.lt gs (.inl rfl)
  have hgb : gs ≠ bm := hX.ne
  clear hX hD hcX
  go_wp2_with (first | (at_range; refine wpList_range_own _ rfl _ 168 rfl 3 195 intK Tryz.underlying168 _ bm R.length D rfl hown ?_; intro w0 hrg0 hg0 hs0) | go_in)
  go_frame
  have h0 : RdR D (curR R (Maps.has D) f) := by
    rw [curR_all fun x hx => by rw [HD.out.rd.keys, show fndK kR R x.t = some x from fndK_of HD.out.rd.rises.ids hx]; rfl]
    exact HD.out.rd
  have h0l : (curR R (Maps.has D) f).length = R.length := by
    rw [curR_all fun x hx => by rw [HD.out.rd.keys, show fndK kR R x.t = some x from fndK_of HD.out.rd.rises.ids hx]; rfl]
  have hc0' : Chg X w0 (fun k => k = bm ∨ k = X.heap.size) := Chg.of_grown hg0 _ (fun k e => by cases e)
  have HRG := hide hrg0
  have HS0 := hide hs0
  have H0 := hide (And.intro h0 (And.intro h0l hc0'))
  clear hrg0 hg0 hs0 h0 h0l hc0' hown
  go_loopw [5, 6, 7] (fun n _ _ wr => ∃ left cnt D', wr.ranges Tryz.prog 3 heldP bm X.heap.size R.length D' left cnt ∧ RdR D' (curR R left f) ∧ n = .int .i64 ((R.length - (curR R left f).length : Nat) : Int) ∧ Chg X wr (fun k => k = bm ∨ k = X.heap.size) ∧ X.heap.size + 1 ≤ wr.heap.size) (fun _ _ _ wr => wr.rangeLeft bm X.heap.size)
  case atStart => exact ⟨_, _, _, HRG.out, H0.out.1, by rw [H0.out.2.1, Nat.sub_self]; rfl, H0.out.2.2, by have := HS0.out; omega⟩
  case round =>
    obtain ⟨left, cnt, D', hrg, hrd, rfl, hch, hsz⟩ := hrel
    have hcl := curR_le R left f
    obtain ⟨m, hm⟩ : ∃ m, R.length - (curR R left f).length = m := ⟨_, rfl⟩
    rw [hm]
    have hm8 : m ≤ 32 := by omega
    have HMM := hide (And.intro hm hcl)
    have HRG2 := hide hrg
    have HRD := hide hrd
    have HCH := hide hch
    have c0r : wr.cell? ⟨gs, 0, none⟩ = some (.map (some bm)) := hch.cell c0 (by simp; omega)
    clear hrd hch hm hcl
    go_wp2_with (first | (at_next; refine wpList_next_ranges _ rfl _ rfl 3 intK heldP (Value.int .i64) Value.pointer (fun key kl h => keyR_inv h) (fun v y h => (heldP_ptr h).1) bm X.heap.size R.length D' left cnt rfl hrg ?_ ?_) | go_in)
    · intro hc0 hl0
      have hda := curR_none (R := R) (f := f) hl0
      have HDA := hide hda
      clear hrg hda
      go_wp2
      go_ret
      have hmm := HMM.out
      have hrd := HRD.out
      rw [HDA.out] at hmm hrd
      have hn : (m : Int) = (R.length : Int) - (retR R f).length := by omega
      have hcb : Chg X wr (fun k => k = bm) := ⟨HCH.out.os, HCH.out.tape, HCH.out.output, HCH.out.size, fun k hk hn => HCH.out.block k hk (fun e => by
        rcases e with e | e
        · exact hn e
        · omega)⟩
      have htm : TrIs wr bm (retR R f) D' := ⟨by rw [← hrd.size]; exact bmap_tight HRG2.out.owns, hrd⟩
      exact ⟨by rw [← hn]; rfl, HH.out.filter f ((Chg.of_below HCX.out _).trans hcb fun k hk => .inl hk) htm⟩
    · intro k c kl y1 ps w1 cnt1 hkey hlk hv hat hrg1 hlt hg1 hs1 hen
      obtain ⟨x, hxc, rfl, rfl, rfl⟩ := HRD.out.came (y := (y1, ps)) hkey hv hat
      have hx : x ∈ R := (List.mem_filter.1 hxc).1
      have HXC := hide (And.intro hxc hx)
      have hch1 : Chg X w1 (fun k => k = bm ∨ k = X.heap.size) := HCH.out.trans (Chg.of_grown hg1 (fun k => k = bm ∨ k = X.heap.size) (fun k e => by injection e with e; exact .inl (.inr e.symm))) fun k hk => .inl hk
      have hfx := HX.out.fo x hx
      have hfl := hfx.lt
      have hf1 := hfx.chg hch1 (by have := (HX.out.off x hx).2.1; omega) (by have := (HX.out.off x hx).2.2.2; omega)
      have HEN := hide (end_any hf1)
      have HRG1 := hide hrg1
      have HCH1 := hide hch1
      have HLT := hide hlt
      have HLK := hide hlk
      have HKEY := hide hkey
      have HS1 := hide hs1
      have hsz1 : X.heap.size + 1 ≤ w1.heap.size := by omega
      obtain ⟨t, g, b, L⟩ := x
      dsimp only at *
      clear hrg1 hch1 hrg hkey hv hat hlk hg1 hs1 hlt hx hxc hfx hf1 hfl
      go_wp2_with fail
      refine HEN.out.mono ?_
      rintro e2 Z ⟨rfl, hbZ⟩
      have c0Z : Z.cell? ⟨gs, 0, none⟩ = some (.map (some bm)) := (hbZ.cell (lt_of_cell (HCH1.out.cell c0 (by simp; omega)))).trans (HCH1.out.cell c0 (by simp; omega))
      have hrgZ := ranges_chgB HRG1.out (row := none) ⟨hbZ.os, hbZ.tape, hbZ.output, hbZ.size, fun k hk _ => hbZ.block k hk⟩ (by simp) (by simp)
      have hcZ : Chg X Z (fun k => k = bm ∨ k = X.heap.size) := HCH1.out.belowed hbZ
      have hsZ : X.heap.size + 1 ≤ Z.heap.size := Nat.le_trans hsz1 hbZ.size
      have HRZ := hide hrgZ
      have HZZ := hide (And.intro hcZ hsZ)
      clear hrgZ hcZ hsZ hbZ HEN
      obtain ⟨a, ha⟩ : ∃ a, endP L = a := ⟨_, rfl⟩
      rw [ha]
      have HA := hide ha
      clear ha
      by_cases haf : a < f
      · have hgo := curR_go HRI.out (left := left) HXC.out.2 (show endP L < f by rw [HA.out]; exact haf)
        have hlen := delK_filter (HRD.out.rises) HXC.out.1
        have hrd2 := HRD.out.del (HRG2.out.owns.tidy intK) HXC.out.1
        change ((curR R left f).filter fun y => decide (y.t ≠ t)).length + 1 = _ at hlen
        rw [← hgo] at hlen hrd2
        dsimp only at hlen hrd2 hgo
        have HG := hide (And.intro hlen hrd2)
        have hrgZ := HRZ.out
        clear hgo hlen hrd2
        go_wp2_with (at_delete; refine wpList_delete_ranges _ rfl _ _ 168 3 rfl 195 intK Tryz.underlying168 heldP bm X.heap.size R.length D' _ cnt1 rfl hrgZ _ _ rfl HKEY.out ?_; intro w2 cnt2 hrg2 hle2 hturn2)
        rw [Maps.strike_twice] at hrg2
        have HR2 := hide hrg2
        have HLE := hide hle2
        have hg2 := hturn2.grown
        have hc2 : Chg X w2 (fun k => k = bm ∨ k = X.heap.size) := HZZ.out.1.trans (Chg.of_grown hg2 (fun k => k = bm ∨ k = X.heap.size) (fun k e => by injection e with e; exact .inl (.inl e.symm))) fun k hk => .inl hk
        have hs2 : X.heap.size + 1 ≤ w2.heap.size := Nat.le_trans HZZ.out.2 hg2.size
        have HC2 := hide (And.intro hc2 hs2)
        have hrgZ := trivial
        clear hrg2 hle2 hturn2 hg2 hc2 hs2
        go_wp2
        go_roundw
        case rel => exact ⟨_, _, _, HR2.out, HG.out.2, (by have h1 := HG.out.1; have h2 := HMM.out; have e : R.length - (curR R (fun z => left z && !z.sameKey (Lit.int .i64 t)) f).length = m + 1 := by omega
                                                           rw [e]; go_num), HC2.out.1, HC2.out.2⟩
        case measure => rw [HR2.out.left_eq, HRG2.out.left_eq]; have := HLE.out; have := HLT.out; omega
      · have hst := curR_stay HRI.out (left := left) HXC.out.2 (show f ≤ endP L by rw [HA.out]; omega)
        dsimp only at hst
        have HST := hide hst
        clear hst
        go_wp2
        go_roundw
        case rel => exact ⟨_, _, _, HRZ.out, by rw [HST.out]; exact HRD.out, by rw [HST.out, HMM.out.1], HZZ.out.1, HZZ.out.2⟩
        case measure => rw [HRZ.out.left_eq, HRG2.out.left_eq]; exact HLT.out
end Go.Proofs.YtionbmlicmibgaaGreatDoor
namespace Go.Proofs.YtionbmlicmibgaaGreatDoor
set_option linter.unusedVariables false
set_option linter.unusedSimpArgs false
open Go.RowKit Go.Maps Go.Sort Go.Shelf
theorem tkeys_sorted {w : World} {b : Nat} {L : List Tr} {D : DataW Value} (h : TrIs w b L D) {ss : List Int} (hp : ss.Perm (intKeys D)) : ss.mergeSort (fun x y => decide (x ≤ y)) = L.map (·.t) := by
  obtain ⟨es, hD, hpw, _⟩ := h.map.entries intK
  obtain ⟨es', hD', hko⟩ := h.map.keysOf
  obtain rfl : es = es' := by rw [hD] at hD'; simpa using hD'
  have hr : (L.map (·.t)).Pairwise (fun x y => x < y) := List.pairwise_map.2 h.rd.rises
  have hnd : (L.map (·.t)).Nodup := hr.imp fun {x y} (h : x < y) e => by omega
  have hq : (L.map (·.t)).Perm (intKeys D) := by
    rw [hD]
    refine perm_intKeys hpw (fun p hp => ?_) hnd fun x => ?_
    · obtain ⟨v, hv⟩ := hko p hp
      obtain ⟨x, _, hx, _⟩ := Maps.keyOf_i64 Tryz.underlying3 hv
      exact ⟨x, hx⟩
    · rw [← hD, h.rd.keys]
      constructor
      · intro hx
        obtain ⟨y, hy, rfl⟩ := List.mem_map.1 hx
        rw [show fndK kR L y.t = some y from fndK_of h.rd.rises.ids hy]
        rfl
      · intro hx
        obtain ⟨y, hy⟩ := Option.isSome_iff_exists.1 hx
        obtain ⟨h1, h2⟩ := fndK_mem hy
        exact List.mem_map.2 ⟨y, h1, h2⟩
  have e := mergeSort_of_perm_i (hp.trans hq.symm)
  unfold leI at e
  rw [e]
  exact List.mergeSort_of_pairwise (hr.imp fun {x y} (h : x < y) => by simp; omega)
theorem sortsA (m : Nat) : AnyZI.SortsIn Tryz.prog Tryz.sortedA_ren Fence.wide m :=
  ⟨fun blk off cap ss W hH hblk hsz => callsIn_wide.2 (AnyM.slices_Sort_int Tryz.sortA blk off cap ss W hH hblk hsz),
   fun p cap W => callsIn_wide.2 (AnyM.slices_Sort_int_none Tryz.sortA p cap W)⟩
theorem tkeys_any (mb : Option Nat) (W : World) : Calls Tryz.prog 129 #[.map mb] W fun e w' => e = .returned (.func (.func 168) #[] #[.pointer (some ⟨W.heap.size, 0, none⟩)]) ∧ w' = W.alloc (.cells #[.map mb] 168) :=
  (callsIn_wide (n := 5)).1 (AnyZI.keys_in Tryz.keysA Fence.wide 5 trivial rfl mb W)
def SortedPost (W : World) (l : List Int) (e : Ending) (w' : World) : Prop := ∃ v, e = .returned v ∧ w'.ownsRow W.heap.size 3 1 v l.length (l.map (Value.int .i64)) ∧ Below W.heap.size W w'
set_option maxHeartbeats 1100000 in
theorem tsorted_any {w : World} {b : Nat} {L : List Tr} {D : DataW Value} (h : TrIs w b L D) (hL : L.length ≤ 1100000) : Calls Tryz.prog 128 #[.func (.func 168) #[] #[.pointer (some ⟨w.heap.size, 0, none⟩)]] (w.alloc (.cells #[.map (some b)] 168)) (SortedPost (w.alloc (.cells #[.map (some b)] 168)) (L.map (·.t))) := by
  have hbl := h.lt
  have hseq : SeqGives Fence.wide 2 Tryz.prog 168 #[.pointer (some ⟨w.heap.size, 0, none⟩)] encZ (fun ss => ss.Perm (intKeys D)) (Maps.size D) (w.alloc (.cells #[.map (some b)] 168)) :=
    AnyZI.keys_gives (ρ := Tryz.keysA_ren) { Tryz.keysA with } Fence.wide _ trivial rfl (by omega) w.heap.size b L.length D _ (by simp) (by simp) (by
      obtain ⟨es, clock, hb, Ft, hs, hD⟩ := h.map
      exact ⟨es, clock, (Below.heap_alloc _ _ b hbl).trans hb, Ft, hs, hD⟩)
  have cS := AnyZI.sorted_in Tryz.sortedA Fence.wide 5 trivial trivial trivial trivial rfl (by omega) (sortsA _) (enters_of Tryz.func167 (by kernel_rfl) rfl) 168 #[.pointer (some ⟨w.heap.size, 0, none⟩)] trivial (enters_of Tryz.func168 (by kernel_rfl) rfl) _ _ (by rw [h.rd.size]; simp [maxLen]; omega) (by rw [h.rd.size]; omega) _ hseq
  change CallsIn _ _ Tryz.prog 128 _ _ _ at cS
  refine ((callsIn_wide (n := 5)).1 cS).mono ?_
  rintro e w' ⟨v, ss, rfl, hS, hrow, hnil, hb⟩
  have hs := tkeys_sorted h hS
  refine ⟨v, rfl, ?_, hb⟩
  have hl : ss.length = (L.map (·.t)).length := by rw [← hs, List.length_mergeSort]
  rw [hs, hl] at hrow
  exact hrow
def TracesPost (w : World) (R : List Tr) (e : Ending) (w' : World) : Prop := ∃ v, e = .returned v ∧ w'.ownsRow w.heap.size 3 1 v R.length ((R.map (·.t)).map (Value.int .i64)) ∧ Below w.heap.size w w'
theorem row_mono {w : World} {B B' : Nat} {ty : TypeId} {n m : Nat} {v : Value} {cs : List Value} (h : w.ownsRow B ty n v m cs) (hB : B' ≤ B) : w.ownsRow B' ty n v m cs :=
  ⟨h.1, h.2.imp id fun ⟨g, cap, cur, e, hb, r⟩ => ⟨g, cap, cur, e, Nat.le_trans hB hb, r⟩⟩
set_option maxRecDepth 200000 in
set_option maxHeartbeats 2000000 in
theorem straces_any {w : World} {gs bm : Nat} {R : List Tr} (h : SoIs w gs bm R) : Calls Tryz.prog 93 #[.pointer (some ⟨gs, 0, none⟩)] w (TracesPost w R) := by
  have HM := hide (smade_any h.c0)
  have HH := hide h
  have hL8 := h.len
  clear h
  go_enter Tryz.func93, Tryz.ntmps93
  go_wp2_with fail
  refine HM.out.mono ?_
  rintro e X ⟨rfl, q, hq⟩
  have hcX : Below w.heap.size w X := by rw [hq]; exact bdrew w q
  clear hq
  have hX := HH.out.below hcX
  have c0 := hX.c0
  obtain ⟨D, hD⟩ := hX.map
  have HS := hide (tsorted_any hD (by omega))
  have HCX := hide hcX
  clear hX hD hcX
  go_wp2_with fail
  refine (tkeys_any _ _).mono ?_
  rintro e w1 ⟨rfl, rfl⟩
  go_wp2_with fail
  refine HS.out.mono ?_
  rintro e w2 ⟨v, rfl, hrow, hb2⟩
  have hll : (R.map (·.t)).length = R.length := by simp
  rw [hll] at hrow
  have hb : Below X.heap.size X w2 := ((Below.refl _ X).alloc (Nat.le_refl _) _).trans (hb2.mono (by simp))
  have HR := hide (row_mono (B' := w.heap.size) hrow (by have := HCX.out.size; simp; omega))
  have HB := hide (HCX.out.trans (hb.mono HCX.out.size))
  clear hrow hb2 hb hll
  go_wp2
  go_ret
  exact ⟨v, rfl, HR.out, HB.out⟩
end Go.Proofs.YtionbmlicmibgaaGreatDoor
