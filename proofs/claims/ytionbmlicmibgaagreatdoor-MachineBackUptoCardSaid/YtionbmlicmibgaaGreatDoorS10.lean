import Derived.Test.YtionbmlicmibgaaGreatDoorS9
namespace Go.Proofs.YtionbmlicmibgaaGreatDoor
set_option linter.unusedVariables false
set_option linter.unusedSimpArgs false
open Go.RowKit
theorem tr_fst (R : List Tr) : R.map (·.t) = (R.map Tr.pl).map Prod.fst := by rw [List.map_map]; rfl
section
variable {w w' : World} {gs bm : Nat} {R R' : List Tr}
theorem SoIs.ne_at (h : SoIs w gs bm R) {a : Addr} {u : Value} (hc : w.cell? a = some u) : ¬ SoM bm R a.block := by
 obtain ⟨g, i, sp⟩ := a
 rintro (rfl | ⟨x, hx, hb⟩)
 ·obtain ⟨D, hD⟩ := h.map
  obtain ⟨es, clock, hb, _⟩ := hD.map
  unfold World.cell? at hc
  simp only [hb] at hc
  cases hc
 ·dsimp only at hb
  subst hb
  obtain ⟨D, hD⟩ := (h.fo x hx).bag
  obtain ⟨es, clock, hb, _⟩ := hD.map
  unfold World.cell? at hc
  simp only [hb] at hc
  cases hc
theorem By.keep (h : SoIs w gs bm R) (hc : Chg w w' (SoM bm R)) {v : Value} {l : List UInt8} (hv : By w v l) : By w' v l := by
 obtain ⟨p, c, e, h1, h2, h3, h4⟩ := hv
 exact ⟨p, c, e, h1, h2, h3, fun a ha i x hi => hc.cell (h4 a ha i x hi) (h.ne_at (h4 a ha i x hi))⟩
theorem SoIs.ne_row (h : SoIs w gs bm R) {g : Nat} {cs : Array Value} {ty : TypeId} {m : Nat × Nat} (hr : w.heap[g]? = some (.cells cs ty m)) : ¬ SoM bm R g := by
 rintro (rfl | ⟨x, hx, rfl⟩)
 ·obtain ⟨D, hD⟩ := h.map
  obtain ⟨es, clock, hb, _⟩ := hD.map
  rw [hb] at hr
  cases hr
 ·obtain ⟨D, hD⟩ := (h.fo x hx).bag
  obtain ⟨es, clock, hb, _⟩ := hD.map
  rw [hb] at hr
  cases hr
end
end Go.Proofs.YtionbmlicmibgaaGreatDoor
namespace Go.Proofs.YtionbmlicmibgaaGreatDoor
set_option linter.unusedVariables false
set_option linter.unusedSimpArgs false
open Go.RowKit
def modOfB (m : Nat) (x : Int) : Nat := (wrap64 ((IntKind.u64.wrap x).tmod m)).toNat
theorem modOfB_ok {m : Nat} (h0 : 0 < m) (hm : m ≤ 1048576) (x : Int) : (modOfB m x : Int) = wrap64 ((IntKind.u64.wrap x).tmod m) ∧ modOfB m x < m := by
 obtain ⟨y, hy⟩ : ∃ y : Nat, IntKind.u64.wrap x = y := ⟨(IntKind.u64.wrap x).toNat, by
  have h1 : 0 ≤ IntKind.u64.wrap x := by
   rw [IntKind.wrap_u64]
   omega
  omega⟩
 have h2 : (IntKind.u64.wrap x).tmod m = ((y % m : Nat) : Int) := by
  rw [hy]
  exact Int.ofNat_tmod y m
 have h4 : y % m < m := Nat.mod_lt _ h0
 have h3 : wrap64 ((y % m : Nat) : Int) = ((y % m : Nat) : Int) := by
  unfold wrap64
  omega
 unfold modOfB
 rw [h2, h3]
 omega
end Go.Proofs.YtionbmlicmibgaaGreatDoor
namespace Go.Proofs.YtionbmlicmibgaaGreatDoor
set_option linter.unusedVariables false
set_option linter.unusedSimpArgs false
def nm (y : Pl) : Pl := (y.1, sortS y.2)
def nrm (S : List Pl) : List Pl := S.map nm
theorem nm_nm (y : Pl) : nm (nm y) = nm y := by unfold nm; rw [sortS_sortS]
theorem nrm_nrm (S : List Pl) : nrm (nrm S) = nrm S := by
 unfold nrm
 rw [List.map_map]
 exact List.map_congr_left fun y _ => nm_nm y
theorem kP_nm (y : Pl) : kP (nm y) = kP y := rfl
theorem nrm_len (S : List Pl) : (nrm S).length = S.length := List.length_map _
theorem nrm_fst (S : List Pl) : (nrm S).map Prod.fst = S.map Prod.fst := by unfold nrm; rw [List.map_map]; rfl
theorem nrm_fnd (S : List Pl) (k : Int) : fndK kP (nrm S) k = (fndK kP S k).map nm := fndK_map nm kP_nm S k
theorem nrm_ins (S : List Pl) (x : Pl) : nrm (insK kP S x) = insK kP (nrm S) (nm x) := insK_map nm kP_nm S x
theorem nrm_img (S : List Pl) : imgS (nrm S) = imgS S := by
 rw [imgS_flat, imgS_flat, nrm_len]
 unfold nrm
 rw [List.map_map]
 have : (bytesS ∘ nm) = bytesS := by
  funext y
  show bytesS (nm y) = bytesS y
  unfold bytesS nm
  dsimp only
  rw [sortS_sortS]
 rw [this]
theorem nrm_ret (S : List Pl) (f : Int) : retS (nrm S) f = nrm (retS S f) := by
 unfold retS nrm
 rw [List.filter_map]
 have : ((fun y : Pl => decide (f ≤ endP y.2)) ∘ nm) = fun y : Pl => decide (f ≤ endP y.2) := by
  funext y
  show decide (f ≤ endP (sortS y.2)) = _
  rw [endP_perm (sortS_perm y.2)]
 rw [this]
theorem upw_congr {L M : List Sp} (h : ∀ k, fnd M k = fnd L k) (id : Int) : ∀ (n : Nat) (a : Int), upw M id n a = upw L id n a
 | 0, a => rfl
 | n + 1, a => by
  unfold upw
  rw [h a]
  cases fnd L a with
  | none => rfl
  | some u =>
   dsimp only
   rw [upw_congr h id n u.p]
theorem ring_congr {L M : List Sp} (h : ∀ k, fnd M k = fnd L k) (id a : Int) : ring M id a = ring L id a := by
 rw [Bool.eq_iff_iff, ring_iff, ring_iff]
 constructor
 ·rintro ⟨n, hn⟩
  exact ⟨n, by rw [← upw_congr h]; exact hn⟩
 ·rintro ⟨n, hn⟩
  exact ⟨n, by rw [upw_congr h]; exact hn⟩
theorem putP_sort {t : Int} {L : List Sp} (h : FoOk t L) (c : Cn) (x : Sp) : (putP (sortS L) c x).2 = (putP L c x).2 ∧ sortS (putP (sortS L) c x).1 = sortS (putP L c x).1 := by
 have hp := sortS_perm L
 have hf := fnd_perm h.ids hp
 unfold putP
 rw [hf, sortS_length, ring_congr hf]
 cases fnd L x.i with
 | some o =>
  dsimp only
  split
  ·exact ⟨rfl, sortS_sortS L⟩
  ·exact ⟨rfl, sortS_sortS L⟩
 | none =>
  dsimp only
  split
  ·exact ⟨rfl, sortS_sortS L⟩
  ·split
   ·exact ⟨rfl, sortS_sortS L⟩
   ·exact ⟨rfl, sortS_of_perm (hp.append_right [x])⟩
theorem put1_nrm {S : List Pl} (h : SoOk S) (x : Sp) : nrm (put1 (nrm S) x).1 = nrm (put1 S x).1 ∧ (put1 (nrm S) x).2 = (put1 S x).2 := by
 unfold put1
 rw [nrm_fnd]
 cases hf : fndK kP S x.t with
 | none =>
  dsimp only [Option.map_none]
  rw [nrm_len]
  split
  ·exact ⟨nrm_nrm S, rfl⟩
  ·refine ⟨?_, rfl⟩
   dsimp only
   rw [nrm_ins, nrm_ins, nrm_nrm]
 | some y =>
  dsimp only [Option.map_some]
  have hy := (h.ok y (fndK_mem hf).1).1
  have hs := putP_sort hy cn0 x
  refine ⟨?_, hs.1⟩
  rw [nrm_ins, nrm_ins, nrm_nrm]
  congr 1
  unfold nm
  dsimp only
  rw [hs.2]
theorem put1_eqv {S S' : List Pl} (h : SoOk S) (h' : SoOk S') (he : nrm S = nrm S') (x : Sp) : nrm (put1 S x).1 = nrm (put1 S' x).1 ∧ (put1 S x).2 = (put1 S' x).2 := by
 have a := put1_nrm h x
 have b := put1_nrm h' x
 rw [he] at a
 exact ⟨a.1.symm.trans b.1, a.2.symm.trans b.2⟩
theorem puts_eqv : ∀ (l : List Sp) {S S' : List Pl}, SoOk S → SoOk S' → (∀ x ∈ l, x.ok = true) → nrm S = nrm S' → nrm (puts S l).1 = nrm (puts S' l).1 ∧ (puts S l).2 = (puts S' l).2
 | [], S, S', _, _, _, he => ⟨he, rfl⟩
 | x :: r, S, S', h, h', hx, he => by
  have a := put1_eqv h h' he x
  have b := puts_eqv r (put1_ok h (hx x (List.mem_cons_self ..))) (put1_ok h' (hx x (List.mem_cons_self ..))) (fun y hy => hx y (List.mem_cons_of_mem _ hy)) a.1
  refine ⟨b.1, ?_⟩
  show (put1 S x).2.plus (puts (put1 S x).1 r).2 = (put1 S' x).2.plus (puts (put1 S' x).1 r).2
  rw [a.2, b.2]
theorem ing_eqv {S S' : List Pl} (h : SoOk S) (h' : SoOk S') (he : nrm S = nrm S') (l : List Sp) : nrm (ingS S l) = nrm (ingS S' l) ∧ ingC S l = ingC S' l := by
 unfold ingS ingC
 split
 ·rename_i ha
  exact puts_eqv l h h' (fun x hx => List.all_eq_true.1 ha x hx) he
 ·exact ⟨he, rfl⟩
theorem ret_eqv {S S' : List Pl} (he : nrm S = nrm S') (f : Int) : nrm (retS S f) = nrm (retS S' f) ∧ (retS S f).length = (retS S' f).length := by
 have h1 : nrm (retS S f) = nrm (retS S' f) := by rw [← nrm_ret, ← nrm_ret, he]
 exact ⟨h1, by rw [← nrm_len (retS S f), h1, nrm_len]⟩
theorem insK_last {T : List Pl} {x : Pl} (h : ∀ y ∈ T, kP y < kP x) (U : List Pl) : insK kP (T ++ U) x = T ++ insK kP U x := by
 induction T with
 | nil => rfl
 | cons y r ih =>
  have h1 := h y (List.mem_cons_self ..)
  show insK kP (y :: (r ++ U)) x = y :: (r ++ insK kP U x)
  rw [insK, if_neg (by omega), if_neg (by omega), ih fun z hz => h z (List.mem_cons_of_mem _ hz)]
theorem fndK_last {T : List Pl} {x : Pl} (h : ∀ y ∈ T, kP y < kP x) : fndK kP (T ++ [x]) (kP x) = some x := by
 unfold fndK
 rw [List.find?_append]
 have : T.find? (fun y => kP y == kP x) = none := by
  rw [List.find?_eq_none]
  intro y hy
  have := h y hy
  simp
  omega
 rw [this]
 simp
theorem puts_last {t : Int} {T : List Pl} (hT : ∀ y ∈ T, kP y < t) : ∀ (rest pre : List Sp), FoOk t (pre ++ rest) → (puts (T ++ [(t, pre)]) rest).1 = T ++ [(t, pre ++ rest)]
 | [], pre, h => by rw [List.append_nil]; rfl
 | x :: rest, pre, h => by
  have hx := h.ok x (List.mem_append_right _ (List.mem_cons_self ..))
  have h1 : FoOk t (pre ++ [x]) := by
   obtain ⟨r, hr⟩ := h.rises
   have hsub : (pre ++ [x]).Sublist (pre ++ x :: rest) := by
    refine List.Sublist.append_left ?_ pre
    simp
   have hids := h.ids.sublist hsub
   refine ⟨hids, ⟨r, fun y hy u hu => ?_⟩, fun y hy => h.ok y (hsub.subset hy), ?_⟩
   ·refine hr y (hsub.subset hy) u ?_
    obtain ⟨q1, q2⟩ := fnd_mem hu
    rw [← q2]
    exact fnd_of h.ids (hsub.subset q1)
   ·have := h.len
    have := hsub.length_le
    omega
  have hp : putP pre cn0 x = (pre ++ [x], ⟨1, 0, 0, 0, 0⟩) := by
   have := adds_all [x] pre cn0 h1
   exact this
  have h2 : put1 (T ++ [(t, pre)]) x = (T ++ [(t, pre ++ [x])], ⟨1, 0, 0, 0, 0⟩) := by
   unfold put1
   rw [hx.2, show fndK kP (T ++ [(t, pre)]) t = some (t, pre) from fndK_last (x := (t, pre)) hT]
   dsimp only
   rw [hp, insK_last (x := (t, pre ++ [x])) hT]
   simp [insK, kP]
  show (puts (put1 (T ++ [(t, pre)]) x).1 rest).1 = _
  rw [h2]
  dsimp only
  rw [puts_last hT rest (pre ++ [x]) (by rw [List.append_assoc]; exact h), List.append_assoc]
  rfl
theorem ing_last {t : Int} {T : List Pl} (hT : ∀ y ∈ T, kP y < t) (hl : T.length < 32) {L : List Sp} (hL : FoOk t L) (hn : L ≠ []) : ingS T L = T ++ [(t, L)] := by
 have ha : L.all Sp.ok = true := List.all_eq_true.2 fun x hx => (hL.ok x hx).1
 unfold ingS
 rw [if_pos ha]
 cases L with
 | nil => exact absurd rfl hn
 | cons x r =>
  have hx := hL.ok x (List.mem_cons_self ..)
  have h1 : put1 T x = (T ++ [(t, [x])], ⟨1, 0, 0, 0, 0⟩) := by
   have hf : fndK kP T t = none := by
    rw [fndK_none]
    intro y hy e
    have := hT y hy
    omega
   unfold put1
   rw [hx.2, hf]
   dsimp only
   rw [if_neg (by omega), putP_nil]
   have := insK_last (x := (t, [x])) hT []
   rw [List.append_nil] at this
   rw [this]
   rfl
  show (puts (put1 T x).1 r).1 = _
  rw [h1]
  exact puts_last hT r [x] hL
end Go.Proofs.YtionbmlicmibgaaGreatDoor
