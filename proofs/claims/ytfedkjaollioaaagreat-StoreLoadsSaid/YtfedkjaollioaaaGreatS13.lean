/- Several texts made one: SoRxO FRefAddT SoRxM SoRxG0 SoRxG. -/
import Derived.BigQuiet
import Derived.Test.YtfedkjaollioaaaGreatS11
import Derived.Test.YtfedkjaollioaaaGreatFRefAddHandS
import Derived.Test.YtfedkjaollioaaaGreatSoSame
/- The document's open. -/
namespace Go.Proofs.YtfedkjaollioaaaGreat
set_option linter.unusedVariables false
set_option linter.unusedSimpArgs false
open Go.RowKit

def kX (x : Rr) : Int := x.t
theorem kP_pl (x : Rr) : kP x.pl = kX x := rfl
/-- The store's memory alone: a forest may be empty. -/
structure RsM (w : World) (gx : Nat) (R : List Rr) : Prop where
  c0 : ∃ v, w.cell? ⟨gx, 0, none⟩ = some v ∧ RrRow w v R ∧ (R = [] ∨ ∀ k, v.ownBlock = some k → ¬ RxT gx R k)
  fr : w.frozen? ⟨gx, 0, none⟩ = false
  fo : ∀ x ∈ R, RfX (RxT gx R) w x.g x.t x.L
  ids : R.Pairwise fun x y => x.g ≠ y.g
  ne : ∀ x ∈ R, x.g ≠ gx
theorem RsIs.mem {w : World} {gx : Nat} {R : List Rr} (h : RsIs w gx R) : RsM w gx R := ⟨h.c0, h.fr, h.fo, h.ids, h.ne⟩
theorem RsM.is {w : World} {gx : Nat} {R : List Rr} (h : RsM w gx R) (hok : SoOk (R.map Rr.pl)) : RsIs w gx R := ⟨h.c0, h.fr, hok, h.fo, h.ids, h.ne⟩
theorem insX_last {P : List Rr} {x : Rr} (h : ∀ y ∈ P, kX y < kX x) (U : List Rr) : insK kX (P ++ U) x = P ++ insK kX U x := by
  induction P with
  | nil => rfl
  | cons y r ih =>
    have h1 := h y (List.mem_cons_self ..)
    show insK kX (y :: (r ++ U)) x = y :: (r ++ insK kX U x)
    rw [insK, if_neg (by omega), if_neg (by omega), ih fun z hz => h z (List.mem_cons_of_mem _ hz)]
theorem insX_snoc {P : List Rr} {x y : Rr} (h : ∃ z ∈ P, kX x < kX z) (hn : ∀ z ∈ P, kX x ≠ kX z) : insK kX (P ++ [y]) x = insK kX P x ++ [y] := by
  induction P with
  | nil => obtain ⟨z, hz, _⟩ := h; cases hz
  | cons u r ih =>
    by_cases h1 : kX x < kX u
    · show insK kX (u :: (r ++ [y])) x = _
      rw [insK, insK, if_pos h1, if_pos h1]
      rfl
    · have h2 := hn u (List.mem_cons_self ..)
      show insK kX (u :: (r ++ [y])) x = _
      rw [insK, insK, if_neg h1, if_neg h1, if_neg h2, if_neg h2, ih ?_ fun z hz => hn z (List.mem_cons_of_mem _ hz)]
      · rfl
      · obtain ⟨z, hz, hlt⟩ := h
        rcases List.mem_cons.1 hz with rfl | hz
        · exact absurd hlt h1
        · exact ⟨z, hz, hlt⟩
theorem insX_last_eq {P : List Rr} {x : Rr} (h : ∃ z ∈ P, kX x < kX z) (hn : ∀ z ∈ P, kX x ≠ kX z) : (insK kX P x).getLast? = P.getLast? := by
  rcases List.eq_nil_or_concat P with rfl | ⟨Q, y, hP⟩
  · obtain ⟨z, hz, _⟩ := h; cases hz
  · rw [List.concat_eq_append] at hP
    subst hP
    by_cases hq : ∃ z ∈ Q, kX x < kX z
    · rw [insX_snoc hq fun z hz => hn z (List.mem_append_left _ hz)]
      simp
    · have hQ : ∀ z ∈ Q, kX z < kX x := fun z hz => by
        have h1 := hn z (List.mem_append_left _ hz)
        have h2 : ¬ kX x < kX z := fun e => hq ⟨z, hz, e⟩
        omega
      have hy : kX x < kX y := by
        obtain ⟨z, hz, hlt⟩ := h
        rcases List.mem_append.1 hz with hz | hz
        · exact absurd ⟨z, hz, hlt⟩ hq
        · obtain rfl : z = y := by simpa using hz
          exact hlt
      rw [insX_last hQ, insK, if_pos hy]
      simp
/-- What the loop has gathered of the first forests. -/
def GotX (x : Rr) (P acc : List Rr) : Prop := (acc = P ∧ ∀ y ∈ P, kX y < kX x) ∨ (acc = insK kX P x ∧ ∃ y ∈ P, kX x < kX y)
theorem last_up {P : List Rr} (hr : RisesK kX P) {x z : Rr} (hz : P.getLast? = some z) (h : ∃ u ∈ P, kX x < kX u) : z ∈ P ∧ kX x < kX z := by
  rcases List.eq_nil_or_concat P with rfl | ⟨Q, y, hP⟩
  · simp at hz
  · rw [List.concat_eq_append] at hP
    subst hP
    obtain rfl : y = z := by simpa using hz
    refine ⟨by simp, ?_⟩
    obtain ⟨u, hu, hlt⟩ := h
    rcases List.mem_append.1 hu with hu | hu
    · have := (List.pairwise_append.1 hr).2.2 u hu y (List.mem_cons_self ..)
      omega
    · obtain rfl : u = y := by simpa using hu
      exact hlt
theorem insX_pair {x : Rr} : ∀ {R : List Rr}, R.Pairwise (fun a b => a.g ≠ b.g) → (∀ y ∈ R, y.g ≠ x.g) → (insK kX R x).Pairwise fun a b => a.g ≠ b.g
  | [], _, _ => by simp [insK]
  | y :: r, h, hx => by
    have h1 := List.pairwise_cons.1 h
    have hr : ∀ z ∈ r, z.g ≠ x.g := fun z hz => hx z (List.mem_cons_of_mem _ hz)
    rw [insK]
    split
    · refine List.pairwise_cons.2 ⟨fun z hz e => hx z hz e.symm, h⟩
    · split
      · exact List.pairwise_cons.2 ⟨fun z hz e => hr z hz e.symm, h1.2⟩
      · refine List.pairwise_cons.2 ⟨fun z hz => ?_, insX_pair h1.2 hr⟩
        rcases mem_insK' hz with rfl | hz
        · exact hx y (List.mem_cons_self ..)
        · exact h1.1 z hz
theorem RsIs.opened {w wr : World} {gx gf B : Nat} {R : List Rr} {v : Value} {t : Int} (h : RsIs w gx R) (hb : Below w.heap.size w wr) (hgf : w.heap.size ≤ gf) (hB : gf < B) (ho : OwnR B wr v (insK kX R ⟨t, gf, []⟩))
    (hrow : wr.heap[gf]? = some (.cells #[.int .i64 t, .slice none 0 0] 103 (0, 0))) : RsM (wr.setCell ⟨gx, 0, none⟩ v) gx (insK kX R ⟨t, gf, []⟩) := by
  have h' := h.below hb
  have hlt := h.lt
  obtain ⟨u, h1, h2, h3⟩ := h'.c0
  have hgx : gx < w.heap.size := hlt gx (.inl rfl)
  have hT : ∀ k, RxT gx (insK kX R ⟨t, gf, []⟩) k → RxT gx R k ∨ k = gf := by
    rintro k (rfl | ⟨x, hx, rfl⟩)
    · exact .inl (.inl rfl)
    · rcases mem_insK' hx with rfl | hx
      · exact .inr rfl
      · exact .inl (.inr ⟨x, hx, rfl⟩)
  have hTB : ∀ k, RxT gx (insK kX R ⟨t, gf, []⟩) k → k < B := fun k hk => by
    rcases hT k hk with e | e
    · have := hlt k e; omega
    · omega
  have hvb : ∀ k, v.ownBlock = some k → B ≤ k := fun k hk => (World.ownsRow.lt ho k hk).1
  have hg := grown_set wr gx 0 v
  refine ⟨⟨v, World.cell?_setCell_same _ _ _ h1, ?_, .inr fun k hk hh => ?_⟩, ?_, fun x hx => ?_, ?_, fun x hx => ?_⟩
  · refine (RrRow.of_own ho).chg (Chg.of_grown hg (fun k => k = gx) fun k e => by injection e with e; exact .inl e.symm) (.inr fun k hk e => ?_)
    have := hvb k hk
    omega
  · have := hvb k hk
    have := hTB k hh
    omega
  · rw [World.frozen?_setCell]; exact h'.fr
  · rcases mem_insK' hx with rfl | hx
    · have hne : gf ≠ gx := by omega
      have hbk : (wr.setCell ⟨gx, 0, none⟩ v).heap[gf]? = wr.heap[gf]? := hg.block gf (Array.getElem?_eq_some_iff.1 hrow).1 (fun e => by injection e with e; omega)
      have hr2 := hbk.trans hrow
      have c0 := cell_of_row (wr.setCell ⟨gx, 0, none⟩ v) gf 0 _ 103 (0, 0) hr2
      have c1 := cell_of_row (wr.setCell ⟨gx, 0, none⟩ v) gf 1 _ 103 (0, 0) hr2
      exact ⟨c0, frozen_of_row _ gf 1 _ 103 hr2, _, c1, Sps.nil _, .inl rfl⟩
    · have h4 := (h.fo x hx).more (P := fun k => k = gf) hb (fun k e => by omega)
      exact (h4.grown hg (.inl (.inl rfl)) fun e => h.ne x hx e.symm).weak hT
  · exact insX_pair h.ids fun y hy e => by have := hlt y.g (.inr ⟨y, hy, rfl⟩); have e' : y.g = gf := e; omega
  · rcases mem_insK' hx with rfl | hx
    · have hne : gf ≠ gx := by omega
      exact hne
    · exact h.ne x hx
set_option maxRecDepth 200000 in
set_option maxHeartbeats 4000000 in
/-- open. -/
theorem ropen_any {w : World} {gx : Nat} {R : List Rr} (h : RsIs w gx R) (t : Int) (hno : ∀ x ∈ R, x.t ≠ t) : Calls Tryz.prog 34 #[.pointer (some ⟨gx, 0, none⟩), .int .i64 t] w fun e w' => ∃ gf, e = .returned (.pointer (some ⟨gf, 0, none⟩)) ∧ w.heap.size ≤ gf ∧ RsM w' gx (insK kX R ⟨t, gf, []⟩) ∧ Chg w w' fun k => k = gx := by
  have H := hide h
  obtain ⟨v, c0, ⟨p, c, rfl, hlc, hcm, _, hx⟩, _⟩ := h.c0
  have hfr := h.fr
  have hris : RisesK kX R := (risesK_map Rr.pl kP_pl).1 h.ok.rises
  have hl32 : R.length ≤ 32 := by have := h.ok.len; simpa using this
  obtain ⟨n, hn⟩ : ∃ n, R.length = n := ⟨_, rfl⟩
  rw [hn] at c0 hlc hx hl32
  obtain ⟨X, hX⟩ : ∃ X, w.alloc (.cells #[.int .i64 t, .slice none 0 0] 103) = X := ⟨_, rfl⟩
  obtain ⟨gf, hgf⟩ : ∃ b, w.heap.size = b := ⟨_, rfl⟩
  have hbX : Below w.heap.size w X := by rw [← hX]; exact (Below.refl _ _).alloc (Nat.le_refl _) _
  have hrX : X.heap[gf]? = some (.cells #[.int .i64 t, .slice none 0 0] 103 (0, 0)) := by rw [← hX, ← hgf]; exact heap_alloc_new _ _
  have HX := hide (And.intro hn (And.intro hx (And.intro c0 (And.intro hfr (And.intro hris hno)))))
  have HBX := hide (And.intro hbX (And.intro hrX hgf))
  have hn9 : (n : Int) ≤ 100 := by omega
  have cX := (hbX.cell (p := ⟨gx, 0, none⟩) (lt_of_cell c0)).trans c0
  clear hx hlc hcm hn h hfr hris hno hbX hrX
  go_enter Tryz.func34, Tryz.ntmps34
  go_upto_region 2 with fail
  go_wp2_with fail
  clear cX hX hgf
  go_loopw [6, 8, 17] (fun v6 _ i wr => ∃ (j : Nat) (acc : List Rr) (q : Option Addr) (m d : Nat), v6 = .slice q m d ∧ j ≤ n ∧ i = .int .i64 j ∧ Hid (Below X.heap.size X wr ∧ OwnR X.heap.size wr (.slice q m d) acc ∧ GotX ⟨t, gf, []⟩ (R.take j) acc ∧ acc.length = m)) (fun _ _ i _ => n - (intOf i).toNat)
  case atStart => exact ⟨0, [], none, 0, 0, rfl, by omega, rfl, hide ⟨Below.refl _ _, OwnR.nil _ _, .inl ⟨rfl, by simp⟩, rfl⟩⟩
  case round =>
    obtain ⟨j, acc, q, m, d, rfl, hj, rfl, HR⟩ := hrel
    by_cases hlt : (j : Int) < (n : Int)
    · obtain ⟨g, o, rfl, hp⟩ := HX.out.2.1 (by omega)
      obtain ⟨y, hyj⟩ : ∃ y, R[j]? = some y := ⟨_, List.getElem?_eq_getElem (by have := HX.out.1; omega)⟩
      have hyR := List.mem_of_getElem? hyj
      have hbw : Below w.heap.size w wr := HBX.out.1.trans (HR.out.1.mono HBX.out.1.size)
      have ck := hp j y hyj
      have ck' : wr.cell? ⟨g, o + j, none⟩ = some (.pointer (some ⟨y.g, 0, none⟩)) := (hbw.cell (lt_of_cell ck)).trans ck
      obtain ⟨oo, hoo⟩ : ∃ oo, o + j = oo := ⟨_, rfl⟩
      rw [hoo] at ck'
      have cf := (H.out.fo y hyR).c0
      have cf' : wr.cell? ⟨y.g, 0, none⟩ = some (.int .i64 y.t) := (hbw.cell (lt_of_cell cf)).trans cf
      have cg := cell_of_row X gf 0 _ 103 (0, 0) HBX.out.2.1
      simp only [List.getElem?_toArray, List.getElem?_cons_zero] at cg
      have cg' : wr.cell? ⟨gf, 0, none⟩ = some (.int .i64 t) := (HR.out.1.cell (lt_of_cell cg)).trans cg
      have hTK : R.take (j + 1) = R.take j ++ [y] := by rw [List.take_add_one, hyj]; rfl
      have hlen : acc.length ≤ 1000 ∧ X.heap.size ≤ wr.heap.size := by
        refine ⟨?_, HR.out.1.size⟩
        have h1 : (R.take j).length ≤ j := by rw [List.length_take]; omega
        rcases HR.out.2.2.1 with ⟨e, _⟩ | ⟨e, _⟩
        · rw [e]; omega
        · rw [e]
          have h2 : ∀ P : List Rr, (insK kX P ⟨t, gf, []⟩).length ≤ P.length + 1 := by
            intro P
            induction P with
            | nil => simp [insK]
            | cons a r ih => rw [insK]; split; · simp
                             split
                             · simp
                             · simp; exact ih
          have := h2 (R.take j)
          omega
      have hyt : y.t ≠ t := HX.out.2.2.2.2.2 y hyR
      have HY := hide (And.intro hyj (And.intro hTK (And.intro hlen hbw)))
      have hpre : ∀ z ∈ R.take j, kX z < kX y := by
        intro z hz
        obtain ⟨i, hi⟩ := List.getElem?_of_mem hz
        have hij : i < j := by
          have := (List.getElem?_eq_some_iff.1 hi).1
          rw [List.length_take] at this
          omega
        rw [List.getElem?_take_of_lt hij] at hi
        have h5 := HX.out.2.2.2.2.1
        obtain ⟨hi1, hi2⟩ := List.getElem?_eq_some_iff.1 hi
        obtain ⟨hj1, hj2⟩ := List.getElem?_eq_some_iff.1 hyj
        have := List.pairwise_iff_getElem.1 h5 i j hi1 hj1 hij
        rw [hi2, hj2] at this
        exact this
      have HPRE := hide hpre
      clear hp ck cf cg hyj hTK hlen hbw hpre
      by_cases hA : t < y.t
      · have hd0 : decide (t < y.t) = true := by simpa using hA
        obtain ⟨yt, yg, yL⟩ := y
        dsimp only at *
        by_cases hm0 : m = 0
        · subst hm0
          obtain rfl : acc = [] := List.eq_nil_of_length_eq_zero HR.out.2.2.2
          have hG : GotX ⟨t, gf, []⟩ (R.take (j + 1)) (([] ++ [⟨t, gf, []⟩]) ++ [⟨yt, yg, yL⟩]) := by
            rw [HY.out.2.1]
            rcases HR.out.2.2.1 with ⟨e, h⟩ | ⟨e, z, hz, h⟩
            · rw [← e]
              refine .inr ⟨?_, ⟨yt, yg, yL⟩, by simp, hA⟩
              show _ = insK kX [⟨yt, yg, yL⟩] ⟨t, gf, []⟩
              rw [insK, if_pos (show kX ⟨t, gf, []⟩ < kX ⟨yt, yg, yL⟩ from hA)]
              rfl
            · exfalso
              have h1 : z ∈ insK kX (R.take j) ⟨t, gf, []⟩ ∨ True := .inr trivial
              have h2 : (insK kX (R.take j) (⟨t, gf, []⟩ : Rr)) ≠ [] := by
                cases R.take j with
                | nil => simp [insK]
                | cons a r =>
                  rw [insK]
                  split
                  · simp
                  · split
                    · simp
                    · simp
              exact h2 e.symm
          have HG := hide hG
          clear hG
          go_upto_region 6 with fail
          go_quiet (fail)
          obtain ⟨V, hV⟩ : ∃ V, wr.drewN nq = V := ⟨_, rfl⟩
          have HV := hide (And.intro (show Below X.heap.size X V by rw [← hV]; exact HR.out.1.trans ((bdrew wr nq).mono HR.out.1.size)) (And.intro (show OwnR X.heap.size V (.slice q 0 d) [] by rw [← hV]; exact OwnR.below HR.out.2.1 (bdrew wr nq)) (show X.heap.size ≤ V.heap.size by rw [← hV]; exact HR.out.1.size)))
          rw [hV]
          clear hV
          go_upto_region 8 with (at_builtin; go_must (refine wpList_pushR (v := .slice q 0 d) rfl _ _ rfl rfl ⟨t, gf, []⟩ rfl rfl rfl HV.out.2.1 HV.out.2.2 (by simp) ?_); intro v6 w6 ho6 hb6 hg6; obtain ⟨p6, c6, rfl, _⟩ := RrRow.of_own ho6; have H6 := hide (And.intro (HV.out.1.trans hb6) (And.intro ho6 (Nat.le_trans HV.out.2.2 (show V.heap.size ≤ w6.heap.size from hg6.size)))); clear ho6 hb6 hg6)
          go_wp2_with (at_builtin; go_must (refine wpList_pushR (v := .slice p6 1 c6) rfl _ _ rfl rfl ⟨yt, yg, yL⟩ rfl rfl rfl H6.out.2.1 H6.out.2.2 (by simp) ?_); intro v7 w7 ho7 hb7 hg7; obtain ⟨p7, c7, rfl, _⟩ := RrRow.of_own ho7; have H7 := hide (And.intro (H6.out.1.trans hb7) ho7); clear ho7 hb7 hg7)
          go_roundw
          case rel => exact ⟨j + 1, _, p7, _, c7, rfl, by omega, by go_num, hide ⟨H7.out.1, H7.out.2, HG.out, rfl⟩⟩
          case measure => simp [intOf]; omega
        · obtain ⟨kk, rfl⟩ : ∃ kk, m = kk + 1 := ⟨m - 1, by omega⟩
          have hkb : kk ≤ 1000 := by have := HY.out.2.2.1.1; have := HR.out.2.2.2; omega
          have hm1 : ((kk : Int) + 1 == 0) = false := by simp; omega
          have hk0 : (0 : Int) ≤ (kk : Int) := by omega
          have hk9 : (kk : Int) ≤ 1000 := by omega
          have hkw : IntKind.i64.wrap (kk : Int) = (kk : Int) := by rw [IntKind.wrap_i64]; omega
          have hk1 : (kk : Int) < (kk : Int) + 1 := by omega
          have hk2 : kk < kk + 1 := by omega
          obtain ⟨z, hz⟩ : ∃ z, acc[kk]? = some z := ⟨_, List.getElem?_eq_getElem (by have := HR.out.2.2.2; omega)⟩
          have hbw := HY.out.2.2.2
          have hrow := RrRow.of_own HR.out.2.1
          obtain ⟨qa, ca, hqe, _, _, _, hac⟩ := hrow
          injection hqe with hq1 hq2 hq3
          subst hq1
          obtain ⟨ga, oa, rfl, hac2⟩ := hac (by have := HR.out.2.2.2; omega)
          have cz := hac2 kk z hz
          obtain ⟨oz, hoz⟩ : ∃ o, oa + kk = o := ⟨_, rfl⟩
          have hzR : z ∈ R ∧ ((acc = R.take j ∧ kX z < t ∧ ∀ u ∈ R.take j, kX u < t) ∨ (acc = insK kX (R.take j) ⟨t, gf, []⟩ ∧ t < kX z ∧ ∃ u ∈ R.take j, t < kX u)) := by
            rcases HR.out.2.2.1 with ⟨e, h⟩ | ⟨e, h⟩
            · have hzP : z ∈ R.take j := by rw [← e]; exact List.mem_of_getElem? hz
              exact ⟨List.mem_of_mem_take hzP, .inl ⟨e, h z hzP, h⟩⟩
            · have h1 := insX_last_eq (x := ⟨t, gf, []⟩) h (fun u hu e => HX.out.2.2.2.2.2 u (List.mem_of_mem_take hu) e.symm)
              rw [← e, List.getLast?_eq_getElem?, show acc.length - 1 = kk by have := HR.out.2.2.2; omega, hz] at h1
              obtain ⟨h2, h3⟩ := last_up (HX.out.2.2.2.2.1.sub (List.take_sublist _ _)) h1.symm h
              exact ⟨List.mem_of_mem_take h2, .inr ⟨e, h3, h⟩⟩
          have cf2 := (H.out.fo z hzR.1).c0
          have cf2' : wr.cell? ⟨z.g, 0, none⟩ = some (.int .i64 z.t) := (hbw.cell (lt_of_cell cf2)).trans cf2
          obtain ⟨zt, zg, zL⟩ := z
          unfold Rr.v at cz
          dsimp only at cz cf2'
          rw [hoz] at cz
          have HZ := hide hzR
          clear hbw hac hac2 hz hzR cf2 hq2 hq3
          rcases HZ.out.2 with ⟨e, hlt2, hall⟩ | ⟨e, hlt2, hex⟩
          · have hd1 : decide (zt < t) = true := by have h' : zt < t := hlt2; simpa using h'
            have hG : GotX ⟨t, gf, []⟩ (R.take (j + 1)) ((acc ++ [⟨t, gf, []⟩]) ++ [⟨yt, yg, yL⟩]) := by
              rw [HY.out.2.1, e]
              refine .inr ⟨?_, ⟨yt, yg, yL⟩, by simp, hA⟩
              rw [insX_last hall, insK, if_pos (show kX ⟨t, gf, []⟩ < kX ⟨yt, yg, yL⟩ from hA)]
              simp
            have HG := hide hG
            clear hG e hlt2 hall
            go_upto_region 6 with fail
            go_quiet (fail)
            obtain ⟨V, hV⟩ : ∃ V, wr.drewN nq = V := ⟨_, rfl⟩
            have HV := hide (And.intro (show Below X.heap.size X V by rw [← hV]; exact HR.out.1.trans ((bdrew wr nq).mono HR.out.1.size)) (And.intro (show OwnR X.heap.size V (.slice (some ⟨ga, oa, none⟩) (kk + 1) d) acc by rw [← hV]; exact OwnR.below HR.out.2.1 (bdrew wr nq)) (show X.heap.size ≤ V.heap.size by rw [← hV]; exact HR.out.1.size)))
            rw [hV]
            clear hV
            go_upto_region 8 with (at_builtin; go_must (refine wpList_pushR (v := .slice (some ⟨ga, oa, none⟩) (kk + 1) d) rfl _ _ rfl rfl ⟨t, gf, []⟩ rfl rfl rfl HV.out.2.1 HV.out.2.2 (by have := HY.out.2.2.1.1; omega) ?_); intro v6 w6 ho6 hb6 hg6; obtain ⟨p6, c6, rfl, _⟩ := RrRow.of_own ho6; have H6 := hide (And.intro (HV.out.1.trans hb6) (And.intro ho6 (Nat.le_trans HV.out.2.2 (show V.heap.size ≤ w6.heap.size from hg6.size)))); clear ho6 hb6 hg6)
            go_wp2_with (at_builtin; go_must (refine wpList_pushR (v := .slice p6 (acc.length + 1) c6) rfl _ _ rfl rfl ⟨yt, yg, yL⟩ rfl rfl rfl (by have h6 := H6.out.2.1; simp only [List.length_append, List.length_cons, List.length_nil, Nat.zero_add] at h6; exact h6) H6.out.2.2 (by have := HY.out.2.2.1.1; simp; omega) ?_); intro v7 w7 ho7 hb7 hg7; obtain ⟨p7, c7, rfl, _⟩ := RrRow.of_own ho7; have H7 := hide (And.intro (H6.out.1.trans hb7) ho7); clear ho7 hb7 hg7)
            go_roundw
            case rel =>
              refine ⟨j + 1, (acc ++ [⟨t, gf, []⟩]) ++ [⟨yt, yg, yL⟩], _, _, _, rfl, by omega, by go_num, hide ⟨H7.out.1, ?_, HG.out, by simp⟩⟩
              have h7 := H7.out.2
              simp only [List.length_append, List.length_cons, List.length_nil, Nat.zero_add] at h7
              exact h7
            case measure => simp [intOf]; omega
          · have hd1 : decide (zt < t) = false := by simp; have h' : t < zt := hlt2; omega
            have hG : GotX ⟨t, gf, []⟩ (R.take (j + 1)) (acc ++ [⟨yt, yg, yL⟩]) := by
              rw [HY.out.2.1, e]
              refine .inr ⟨(insX_snoc (x := ⟨t, gf, []⟩) hex fun u hu e => HX.out.2.2.2.2.2 u (List.mem_of_mem_take hu) e.symm).symm, ⟨yt, yg, yL⟩, by simp, hA⟩
            have HG := hide hG
            clear hG e hlt2 hex
            go_upto_region 6 with fail
            go_quiet (fail)
            obtain ⟨V, hV⟩ : ∃ V, wr.drewN nq = V := ⟨_, rfl⟩
            have HV := hide (And.intro (show Below X.heap.size X V by rw [← hV]; exact HR.out.1.trans ((bdrew wr nq).mono HR.out.1.size)) (And.intro (show OwnR X.heap.size V (.slice (some ⟨ga, oa, none⟩) (kk + 1) d) acc by rw [← hV]; exact OwnR.below HR.out.2.1 (bdrew wr nq)) (show X.heap.size ≤ V.heap.size by rw [← hV]; exact HR.out.1.size)))
            rw [hV]
            clear hV
            go_wp2_with (at_builtin; go_must (refine wpList_pushR (v := .slice (some ⟨ga, oa, none⟩) (kk + 1) d) rfl _ _ rfl rfl ⟨yt, yg, yL⟩ rfl rfl rfl HV.out.2.1 HV.out.2.2 (by have := HY.out.2.2.1.1; omega) ?_); intro v6 w6 ho6 hb6 hg6; obtain ⟨p6, c6, rfl, _⟩ := RrRow.of_own ho6; have H6 := hide (And.intro (HV.out.1.trans hb6) ho6); clear ho6 hb6 hg6)
            go_roundw
            case rel =>
              refine ⟨j + 1, acc ++ [⟨yt, yg, yL⟩], _, _, _, rfl, by omega, by go_num, hide ⟨H6.out.1, ?_, HG.out, by simp⟩⟩
              have h6 := H6.out.2
              simp only [List.length_append, List.length_cons, List.length_nil, Nat.zero_add] at h6
              exact h6
            case measure => simp [intOf]; omega
      · have hG : GotX ⟨t, gf, []⟩ (R.take (j + 1)) (acc ++ [y]) := by
          have hyx : kX y < t := by show y.t < t; omega
          rw [HY.out.2.1]
          rcases HR.out.2.2.1 with ⟨e, h⟩ | ⟨e, z, hz, h⟩
          · refine .inl ⟨by rw [e], fun u hu => ?_⟩
            rcases List.mem_append.1 hu with hu | hu
            · exact h u hu
            · obtain rfl : u = y := by simpa using hu
              exact hyx
          · have := HPRE.out z hz
            have h' : t < kX z := h
            omega
        have HG := hide hG
        clear hG
        obtain ⟨yt, yg, yL⟩ := y
        dsimp only at *
        have hd : decide (t < yt) = false := by simpa using hA
        go_upto_region 6 with fail
        go_quiet (fail)
        obtain ⟨V, hV⟩ : ∃ V, wr.drewN nq = V := ⟨_, rfl⟩
        have HV := hide (And.intro (show Below X.heap.size X V by rw [← hV]; exact HR.out.1.trans ((bdrew wr nq).mono HR.out.1.size)) (And.intro (show OwnR X.heap.size V (.slice q m d) acc by rw [← hV]; exact OwnR.below HR.out.2.1 (bdrew wr nq)) (show X.heap.size ≤ V.heap.size by rw [← hV]; exact HR.out.1.size)))
        rw [hV]
        clear hV
        go_wp2_with (at_builtin; go_must (refine wpList_pushR (v := .slice q m d) rfl _ _ rfl rfl ⟨yt, yg, yL⟩ rfl rfl rfl HV.out.2.1 HV.out.2.2 (by have := HY.out.2.2.1.1; omega) ?_); intro v6 w6 ho6 hb6 hg6; obtain ⟨p6, c6, rfl, _⟩ := RrRow.of_own ho6; have H6 := hide (And.intro (HV.out.1.trans hb6) ho6); clear ho6 hb6 hg6)
        go_roundw
        case rel =>
          refine ⟨j + 1, acc ++ [⟨yt, yg, yL⟩], _, _, _, rfl, by omega, by go_num, hide ⟨H6.out.1, ?_, HG.out, by simp⟩⟩
          have h6 := H6.out.2
          simp only [List.length_append, List.length_cons, List.length_nil, Nat.zero_add] at h6
          exact h6
        case measure => simp [intOf]; omega
    · have htk : R.take j = R := List.take_of_length_le (by have := HX.out.1; omega)
      have hg := HR.out.2.2.1
      rw [htk] at hg
      have hbw : Below w.heap.size w wr := HBX.out.1.trans (HR.out.1.mono HBX.out.1.size)
      have cX' := (hbw.cell (p := ⟨gx, 0, none⟩) (lt_of_cell HX.out.2.2.1)).trans HX.out.2.2.1
      have fX' := (hbw.frozen (p := ⟨gx, 0, none⟩) (lt_of_cell HX.out.2.2.1)).trans HX.out.2.2.2.1
      have HBW := hide hbw
      clear hbw htk
      have hnr : R.length = n := HX.out.1
      have hln : ∀ P : List Rr, (∀ y ∈ P, y.t ≠ t) → (insK kX P ⟨t, gf, []⟩).length = P.length + 1 := by
        intro P
        induction P with
        | nil => intro _; rfl
        | cons a r ih =>
          intro ha
          rw [insK]
          split
          · simp
          · split
            · rename_i e
              exact absurd (show a.t = t from e.symm) (ha a (List.mem_cons_self ..))
            · simp [ih fun y hy => ha y (List.mem_cons_of_mem _ hy)]
      have hgB : gf < X.heap.size := (Array.getElem?_eq_some_iff.1 HBX.out.2.1).1
      have HGB := hide hgB
      have hwg : w.heap.size ≤ gf := by have := HBX.out.2.2; omega
      have hlm := HR.out.2.2.2
      rcases hg with ⟨e, hall⟩ | ⟨e, hex⟩
      · have hI : R ++ [(⟨t, gf, []⟩ : Rr)] = insK kX R ⟨t, gf, []⟩ := by
          have h1 := insX_last (x := ⟨t, gf, []⟩) hall []
          rw [List.append_nil] at h1
          rw [h1]
          rfl
        subst e
        obtain rfl : m = n := by omega
        have hrow : wr.heap[gf]? = some (.cells #[.int .i64 t, .slice none 0 0] 103 (0, 0)) := (HR.out.1.block gf hgB).trans HBX.out.2.1
        have HI := hide (And.intro hI (And.intro hrow hwg))
        clear hI hrow hwg hln hnr hgB hlm hall
        go_upto_region 12 with (at_builtin; go_must (refine wpList_pushR (v := .slice q m d) rfl _ _ rfl rfl ⟨t, gf, []⟩ rfl rfl rfl HR.out.2.1 HR.out.1.size (by have := HX.out.1; omega) ?_); intro v6 w6 ho6 hb6 hg6; obtain ⟨p6, c6, rfl, _⟩ := RrRow.of_own ho6; have H6 := hide (And.intro ho6 (And.intro hb6 hg6)); clear ho6 hb6 hg6)
        have hb6w : Below w.heap.size w w6 := HBW.out.trans (H6.out.2.1.mono HBX.out.1.size)
        have cX6 := (hb6w.cell (p := ⟨gx, 0, none⟩) (lt_of_cell HX.out.2.2.1)).trans HX.out.2.2.1
        have fX6 := (hb6w.frozen (p := ⟨gx, 0, none⟩) (lt_of_cell HX.out.2.2.1)).trans HX.out.2.2.2.1
        have HP := hide (H.out.opened (B := X.heap.size) hb6w HI.out.2.2 HGB.out (by rw [← HI.out.1]; exact H6.out.1) ((H6.out.2.1.block gf HGB.out).trans HI.out.2.1))
        have HB6 := hide hb6w
        clear hb6w cX' fX'
        simp only [List.length_append, List.length_cons, List.length_nil, Nat.zero_add] at HP
        go_wp2_with fail
        go_ret
        refine ⟨gf, rfl, HI.out.2.2, HP.out, ?_⟩
        exact (Chg.of_below HB6.out _).trans (Chg.of_grown (grown_set _ _ _ _) (fun k => k = gx) fun k e => by injection e with e; exact .inl e.symm) fun k hk => .inl hk
      · obtain rfl : m = n + 1 := by rw [← hlm, e, hln R HX.out.2.2.2.2.2, hnr]
        have hrow : wr.heap[gf]? = some (.cells #[.int .i64 t, .slice none 0 0] 103 (0, 0)) := (HR.out.1.block gf hgB).trans HBX.out.2.1
        have hO : OwnR X.heap.size wr (.slice q (n + 1) d) (insK kX R ⟨t, gf, []⟩) := by rw [← e]; exact HR.out.2.1
        have HP := hide (H.out.opened HBW.out hwg hgB hO hrow)
        have hne : ((n : Int) + 1 == (n : Int)) = false := beq_eq_false_iff_ne.2 (by omega)
        clear hln hnr hlm hex hrow hO
        go_wp2_with fail
        go_ret
        refine ⟨gf, rfl, hwg, HP.out, ?_⟩
        exact (Chg.of_below HBW.out _).trans (Chg.of_grown (grown_set _ _ _ _) (fun k => k = gx) fun k e => by injection e with e; exact .inl e.symm) fun k hk => .inl hk
end Go.Proofs.YtfedkjaollioaaaGreat
/- The document's Add, where more blocks are written to than the forest's. -/
namespace Go.Proofs.YtfedkjaollioaaaGreat
set_option linter.unusedVariables false
set_option linter.unusedSimpArgs false
open Go.RowKit

set_option maxRecDepth 200000 in
set_option maxHeartbeats 1000000 in
theorem refAddT_any {T : Nat → Prop} {w : World} {g : Nat} {tr : Int} {L l : List Sp} {v : Value} (h : RfX T w g tr L) (hTg : T g) (hTl : ∀ k, T k → k < w.heap.size) (hok : FoOk tr L) (hv : Sps w v l) (hl : l.length ≤ 100000) (hnm : ∀ x ∈ l, x.n.size ≤ 1000000) (hne : l = [] ∨ v.ownBlock ≠ some g) :
    Calls Tryz.prog 35 #[.pointer (some ⟨g, 0, none⟩), v] w fun e w' => e = .returned (addV tr L l) ∧ RfX T w' g tr (addP tr L l) ∧ Chg w w' fun k => k = g := by
  obtain ⟨p, n, c, rfl⟩ := hv.sl
  obtain rfl : n = l.length := hv.len.1
  have HV := hide (And.intro hv hne)
  have HNM := hide hnm
  have HF := hide h
  have HTT := hide (And.intro hTg hTl)
  clear hTg hTl
  have c0 := h.c0
  clear hv hnm h
  go_enter Tryz.func35, Tryz.ntmps35
  go_wp2_with fail
  obtain ⟨X, hX⟩ : ∃ X, (w.alloc (.cells #[.int .i64 0, .int .i64 0, .int .i64 0, .int .i64 0, .int .i64 0] 40)).alloc (.cells #[.int .i64 0, .int .i64 0, .int .i64 0, .int .i64 0, .int .i64 0] 40) = X := ⟨_, rfl⟩
  have HB1 : Hid (Below w.heap.size w X) := hide (by rw [← hX]; exact ((Below.refl w.heap.size w).alloc (Nat.le_refl _) _).alloc (by simp) _)
  have HROW1 : Hid (X.heap[w.heap.size]? = some (.cells #[.int .i64 0, .int .i64 0, .int .i64 0, .int .i64 0, .int .i64 0] 40) ∧ X.heap[w.heap.size + 1]? = some (.cells #[.int .i64 0, .int .i64 0, .int .i64 0, .int .i64 0, .int .i64 0] 40) ∧ CnAt X (w.heap.size + 1) cn0) := hide (by
    have h1 := heap_alloc_new w (.cells #[.int .i64 0, .int .i64 0, .int .i64 0, .int .i64 0, .int .i64 0] 40)
    have h2 := heap_alloc_new (w.alloc (.cells #[.int .i64 0, .int .i64 0, .int .i64 0, .int .i64 0, .int .i64 0] 40)) (.cells #[.int .i64 0, .int .i64 0, .int .i64 0, .int .i64 0, .int .i64 0] 40)
    have hb := (Below.refl (w.alloc (.cells #[.int .i64 0, .int .i64 0, .int .i64 0, .int .i64 0, .int .i64 0] 40)).heap.size (w.alloc (.cells #[.int .i64 0, .int .i64 0, .int .i64 0, .int .i64 0, .int .i64 0] 40))).alloc (Nat.le_refl _) (.cells #[.int .i64 0, .int .i64 0, .int .i64 0, .int .i64 0, .int .i64 0] 40)
    have hs : (w.alloc (.cells #[.int .i64 0, .int .i64 0, .int .i64 0, .int .i64 0, .int .i64 0] 40)).heap.size = w.heap.size + 1 := by simp
    rw [← hX]
    rw [hs] at h2 hb
    have h3 := cnAt_new (w.alloc (.cells #[.int .i64 0, .int .i64 0, .int .i64 0, .int .i64 0, .int .i64 0] 40))
    rw [hs] at h3
    exact ⟨(hb.block w.heap.size (by omega)).trans h1, h2, h3⟩)
  have hXs : X.heap.size = w.heap.size + 2 := by rw [← hX]; simp
  have HXS := hide hXs
  rw [hX]
  clear hX hXs
  go_loopw [8, 16] (fun _ ix wr => ∃ k : Nat, k ≤ l.length ∧ ix = .int .i64 k ∧ Hid (Below X.heap.size X wr ∧ (l.take k).all (fun x => x.ok && decide (x.t = tr)) = true)) (fun _ ix _ => l.length - (intOf ix).toNat)
  case atStart => exact ⟨0, by omega, rfl, hide ⟨Below.refl _ _, rfl⟩⟩
  case round =>
    obtain ⟨k, hk, rfl, HR⟩ := hrel
    by_cases hlt : (k : Int) < (l.length : Int)
    · obtain ⟨gv, ov, rfl, hx⟩ := HV.out.1.at_ (by omega)
      obtain ⟨x, hxk⟩ : ∃ x, l[k]? = some x := ⟨_, List.getElem?_eq_getElem (by omega)⟩
      have hbw : Below w.heap.size w wr := HB1.out.trans (HR.out.1.mono (by have := HXS.out; omega))
      have hat := (hx k x hxk).below hbw
      obtain ⟨oo, hoo⟩ : ∃ oo, ov + k * 6 = oo := ⟨_, rfl⟩
      rw [hoo] at hat
      have z0 := hat.c0
      have z1 := hat.c1
      have z2 := hat.c2
      have z3 := hat.c3
      have z4 := hat.c4
      have z5 := hat.c5
      have hxn := HNM.out x (List.mem_of_getElem? hxk)
      have HCK := hide (refCheck_any x hxn)
      have hnew := spAt_new wr x
      have hfr := HF.out.below hbw
      obtain ⟨Y, hY⟩ : ∃ Y, wr.alloc (.cells #[.int .i64 x.t, .int .i64 x.i, .int .i64 x.p, .int .i64 x.s, .int .i64 x.e, .string x.n] 38) = Y := ⟨_, rfl⟩
      have hbY : Below wr.heap.size wr Y := by rw [← hY]; exact (Below.refl _ _).alloc (Nat.le_refl _) _
      have hfY := hfr.below hbY
      rw [hY] at hnew
      have yg := hfY.c0
      obtain ⟨y0, y1, y2, y3, y4, y5⟩ := hnew.z
      have HYD := hide hY
      have HXK := hide hxk
      have HBY : Hid (Below X.heap.size X Y) := hide (HR.out.1.trans (hbY.mono HR.out.1.size))
      have hgY := lt_of_cell yg
      have hwY := hnew.lt
      have KEEP : Hid (∀ q w7, Below (Y.drewN q).heap.size (Y.drewN q) w7 → w7.cell? ⟨wr.heap.size, 0, none⟩ = some (.int .i64 x.t) ∧ w7.cell? ⟨wr.heap.size, 1, none⟩ = some (.int .i64 x.i) ∧ w7.cell? ⟨wr.heap.size, 2, none⟩ = some (.int .i64 x.p) ∧ w7.cell? ⟨wr.heap.size, 3, none⟩ = some (.int .i64 x.s) ∧ w7.cell? ⟨wr.heap.size, 4, none⟩ = some (.int .i64 x.e) ∧ w7.cell? ⟨wr.heap.size, 5, none⟩ = some (.string x.n) ∧ w7.cell? ⟨g, 0, none⟩ = some (.int .i64 tr)) := hide (fun q w7 hb7 =>
        ⟨(hb7.cell (p := ⟨wr.heap.size, 0, none⟩) hwY).trans y0, (hb7.cell (p := ⟨wr.heap.size, 1, none⟩) hwY).trans y1, (hb7.cell (p := ⟨wr.heap.size, 2, none⟩) hwY).trans y2, (hb7.cell (p := ⟨wr.heap.size, 3, none⟩) hwY).trans y3, (hb7.cell (p := ⟨wr.heap.size, 4, none⟩) hwY).trans y4, (hb7.cell (p := ⟨wr.heap.size, 5, none⟩) hwY).trans y5, (hb7.cell (p := ⟨g, 0, none⟩) hgY).trans yg⟩)
      clear hx hxk hat hxn hnew hfr hbY hfY hY hbw hgY hwY
      obtain ⟨t, i, p', s, en, nm⟩ := x
      dsimp only at *
      unfold spV at *
      dsimp only at *
      by_cases hok2 : Sp.ok ⟨t, i, p', s, en, nm⟩ = true
      · rw [if_pos hok2] at HCK
        have HOK2 := hide hok2
        clear hok2
        by_cases htr : t = tr
        · subst htr
          go_wp2_with fail
          rw [HYD.out]
          go_region_held3 (fun W => W.cell? ⟨wr.heap.size, 0, none⟩ = some (.int .i64 t) ∧ W.cell? ⟨wr.heap.size, 1, none⟩ = some (.int .i64 i) ∧ W.cell? ⟨wr.heap.size, 2, none⟩ = some (.int .i64 p') ∧ W.cell? ⟨wr.heap.size, 3, none⟩ = some (.int .i64 s) ∧ W.cell? ⟨wr.heap.size, 4, none⟩ = some (.int .i64 en) ∧ W.cell? ⟨wr.heap.size, 5, none⟩ = some (.string nm) ∧ W.cell? ⟨g, 0, none⟩ = some (.int .i64 t)) (first | go_keep | exact KEEP.out 1 _ hb7 | exact KEEP.out 0 _ hb7) (first | (go_at_call 32; refine (HCK.out _).mono ?_; rintro e7 w7 ⟨rfl, hb7⟩))
          have HB7 : Hid (Below X.heap.size X w7) := hide (HBY.out.trans (((show Below Y.heap.size Y Y.drew from bdrew Y 1).trans hb7).mono HBY.out.size))
          clear hb7
          go_wp2
          go_roundw
          case rel =>
            refine ⟨k + 1, by omega, by go_num, hide ⟨HB7.out, ?_⟩⟩
            have h1 : l.take (k + 1) = l.take k ++ [⟨t, i, p', s, en, nm⟩] := by rw [List.take_add_one, HXK.out]; rfl
            rw [h1, List.all_append, HR.out.2]
            simp only [List.all_cons, List.all_nil, Bool.and_true, Bool.true_and, decide_true]
            exact HOK2.out
          case measure => simp [intOf]; omega
        · have HBAD : Hid (¬ l.all (fun x => x.ok && decide (x.t = tr)) = true) := hide (fun hall => htr (by
            have := List.all_eq_true.1 hall _ (List.mem_of_getElem? HXK.out)
            rw [Bool.and_eq_true, decide_eq_true_eq] at this
            exact this.2))
          have hb : (t == tr) = false := beq_eq_false_iff_ne.2 htr
          have hb2 : (t != tr) = true := by simp [htr]
          go_wp2_with fail
          rw [HYD.out]
          go_region_held3 (fun W => W.cell? ⟨wr.heap.size, 0, none⟩ = some (.int .i64 t) ∧ W.cell? ⟨wr.heap.size, 1, none⟩ = some (.int .i64 i) ∧ W.cell? ⟨wr.heap.size, 2, none⟩ = some (.int .i64 p') ∧ W.cell? ⟨wr.heap.size, 3, none⟩ = some (.int .i64 s) ∧ W.cell? ⟨wr.heap.size, 4, none⟩ = some (.int .i64 en) ∧ W.cell? ⟨wr.heap.size, 5, none⟩ = some (.string nm) ∧ W.cell? ⟨g, 0, none⟩ = some (.int .i64 tr)) (first | go_keep | exact KEEP.out 1 _ hb7 | exact KEEP.out 0 _ hb7) (first | (go_at_call 32; refine (HCK.out _).mono ?_; rintro e7 w7 ⟨rfl, hb7⟩))
          have HB7 : Hid (Below X.heap.size X w7) := hide (HBY.out.trans (((show Below Y.heap.size Y Y.drew from bdrew Y 1).trans hb7).mono HBY.out.size))
          clear hb7
          have hrw : w7.heap[w.heap.size]? = some (.cells #[.int .i64 0, .int .i64 0, .int .i64 0, .int .i64 0, .int .i64 0] 40) := ((HB7.out.block w.heap.size (by have := HXS.out; omega)).trans HROW1.out.1)
          have hrw2 : w7.heap[w.heap.size + 1]? = some (.cells #[.int .i64 0, .int .i64 0, .int .i64 0, .int .i64 0, .int .i64 0] 40) := ((HB7.out.block (w.heap.size + 1) (by have := HXS.out; omega)).trans HROW1.out.2.1)
          have hbw9 : Below w.heap.size w w7 := HB1.out.trans (HB7.out.mono (by have := HXS.out; omega))
          have cb0 := cell_of_row w7 w.heap.size 0 _ 40 (0, 0) hrw
          have cb1 := cell_of_row w7 w.heap.size 1 _ 40 (0, 0) hrw
          have cb2 := cell_of_row w7 w.heap.size 2 _ 40 (0, 0) hrw
          have cb3 := cell_of_row w7 w.heap.size 3 _ 40 (0, 0) hrw
          have cb4 := cell_of_row w7 w.heap.size 4 _ 40 (0, 0) hrw
          have cf0 := frozen_of_row w7 w.heap.size 0 _ 40 hrw
          have cf1 := frozen_of_row w7 w.heap.size 1 _ 40 hrw
          have cf2 := frozen_of_row w7 w.heap.size 2 _ 40 hrw
          have cf3 := frozen_of_row w7 w.heap.size 3 _ 40 hrw
          have cf4 := frozen_of_row w7 w.heap.size 4 _ 40 hrw
          have cc0 := cell_of_row w7 (w.heap.size + 1) 0 _ 40 (0, 0) hrw2
          have cc1 := cell_of_row w7 (w.heap.size + 1) 1 _ 40 (0, 0) hrw2
          have cc2 := cell_of_row w7 (w.heap.size + 1) 2 _ 40 (0, 0) hrw2
          have cc3 := cell_of_row w7 (w.heap.size + 1) 3 _ 40 (0, 0) hrw2
          have cc4 := cell_of_row w7 (w.heap.size + 1) 4 _ 40 (0, 0) hrw2
          have HRW := hide hrw
          have HBW9 := hide hbw9
          clear hrw hrw2 hbw9
          go_wp2
          refine bodyPost_ret (v := .tuple #[cnV cn0, .int .i64 30]) (by
            have q5 := five_set HRW.out (.int .i64 0) (.int .i64 0) (.int .i64 0) (.int .i64 0) (.int .i64 0)
            generalize (((((w7.setCell ⟨w.heap.size, 0, none⟩ (.int .i64 0)).setCell ⟨w.heap.size, 1, none⟩ (.int .i64 0)).setCell ⟨w.heap.size, 2, none⟩ (.int .i64 0)).setCell ⟨w.heap.size, 3, none⟩ (.int .i64 0)).setCell ⟨w.heap.size, 4, none⟩ (.int .i64 0)) = W9 at q5 ⊢
            have m0 := cell_of_row W9 w.heap.size 0 _ 40 (0, 0) q5
            have m1 := cell_of_row W9 w.heap.size 1 _ 40 (0, 0) q5
            have m2 := cell_of_row W9 w.heap.size 2 _ 40 (0, 0) q5
            have m3 := cell_of_row W9 w.heap.size 3 _ 40 (0, 0) q5
            have m4 := cell_of_row W9 w.heap.size 4 _ 40 (0, 0) q5
            have hz9 : w.heap.size < W9.heap.size := by have := (Array.getElem?_eq_some_iff.1 q5).1; exact this
            clear q5
            unfold cnV
            simp at m0 m1 m2 m3 m4
            simp [results, Tryz.results35, go_sem, m0, m1, m2, m3, m4, hz9, cn0]) rfl ⟨by unfold addV; rw [if_neg HBAD.out], ?_, ?_⟩
          · have hc9 := five_chg (Chg.of_below HBW9.out (fun _ => False)) (.inr (Nat.le_refl w.heap.size)) (.int .i64 0) (.int .i64 0) (.int .i64 0) (.int .i64 0) (.int .i64 0)
            rw [addP, if_neg HBAD.out]
            exact HF.out.chg hc9
          · exact (five_chg (Chg.of_below HBW9.out (fun _ => False)) (.inr (Nat.le_refl w.heap.size)) (.int .i64 0) (.int .i64 0) (.int .i64 0) (.int .i64 0) (.int .i64 0)).mono (fun k hk => hk.elim)
      · have HBAD : Hid (¬ l.all (fun x => x.ok && decide (x.t = tr)) = true) := hide (fun hall => hok2 (by
          have := List.all_eq_true.1 hall _ (List.mem_of_getElem? HXK.out)
          rw [Bool.and_eq_true] at this
          exact this.1))
        rw [if_neg hok2] at HCK
        clear hok2
        go_wp2_with fail
        rw [HYD.out]
        refine wp_region_held_drew (S := fun W => W.cell? ⟨wr.heap.size, 0, none⟩ = some (.int .i64 t) ∧ W.cell? ⟨wr.heap.size, 1, none⟩ = some (.int .i64 i) ∧ W.cell? ⟨wr.heap.size, 2, none⟩ = some (.int .i64 p') ∧ W.cell? ⟨wr.heap.size, 3, none⟩ = some (.int .i64 s) ∧ W.cell? ⟨wr.heap.size, 4, none⟩ = some (.int .i64 en) ∧ W.cell? ⟨wr.heap.size, 5, none⟩ = some (.string nm) ∧ W.cell? ⟨g, 0, none⟩ = some (.int .i64 tr)) (by kernel_rfl) ?_ (fun hHeld => ?_)
        · first | exact KEEP.out 1 _ (Below.refl _ _) | exact KEEP.out 0 _ (Below.refl _ _)
        refine wpAnyH_take (i := 0) (oi := { dst := some 20, op := Op.load 38 (Operand.tmp 8), type := 38, pos := "ref.go:51", after := #[], guard := none }) (v := ?_) rfl (by kernel_rfl) (by kernel_rfl) (by kernel_rfl) (fun _ _ _ h => h) (Or.inl ⟨by rfl, ?_⟩) (by assumption) ?_
        rotate_left
        · intro w hSw
          (try dsimp only at hSw)
          go_simp
          try with_reducible rfl
        try simp only [Act.put, List.setIfInBounds_toArray, List.set_cons_zero, List.set_cons_succ]
        refine wpAnyH_ready (rs := [1]) (by kernel_rfl) (by simp) ?_
        refine AllReadyH.cons (o := { dst := some 21, op := Op.call { callee := Callee.value (Operand.func 32), args := #[Operand.tmp 20], argTypes := #[38] }, type := 41, pos := "ref.go:51", after := #[{ on := 0, ground := Ground.data }], guard := none }) rfl (fun K hK => ?_) AllReadyH.nil
        go_simp
        go_at_call 32
        refine (HCK.out _).mono ?_
        rintro e7 w7 ⟨rfl, hb7⟩
        first
          | refine hK.out _ _ ?_ (fun hHeld => ?_)
          | (go_wp2_with fail; refine hK.out _ _ ?_ (fun hHeld => ?_))
        · (first | exact KEEP.out 1 _ hb7 | exact KEEP.out 0 _ hb7)
        clear hK K
        try simp only [Act.put, List.setIfInBounds_toArray, List.set_cons_zero, List.set_cons_succ]
        refine wpAnyH_take (i := 2) (oi := { dst := some 22, op := Op.binOp BinOp.neq 41 (Operand.tmp 21) (Operand.const (Value.int IntKind.i64 0)) 41, type := 4, pos := "ref.go:51", after := #[{ on := 1, ground := Ground.data }], guard := none }) (v := (.bool true)) rfl (by kernel_rfl) (by kernel_rfl) (by kernel_rfl) (fun _ _ _ h => h) (Or.inl ⟨by rfl, ?_⟩) (by assumption) ?_
        · intro w hSw
          (try dsimp only at hSw)
          go_simp
          try with_reducible rfl
        try simp only [Act.put, List.setIfInBounds_toArray, List.set_cons_zero, List.set_cons_succ]
        refine wpAnyH_take (i := 3) (oi := { dst := some 23, op := Op.move (Operand.tmp 22), type := 4, pos := "ref.go:51", after := #[{ on := 2, ground := Ground.data }, { on := 1, ground := Ground.chain }], guard := none }) (v := ?_) rfl (by kernel_rfl) (by kernel_rfl) (by kernel_rfl) (fun _ _ _ h => h) (Or.inl ⟨by rfl, ?_⟩) (by assumption) ?_
        rotate_left
        · intro w hSw
          (try dsimp only at hSw)
          go_simp
          try with_reducible rfl
        try simp only [Act.put, List.setIfInBounds_toArray, List.set_cons_zero, List.set_cons_succ]
        refine wpAnyH_take (i := 4) (oi := { dst := some 24, op := Op.fieldAddr 38 (Operand.tmp 8) 0, type := 0, pos := "ref.go:51", after := #[{ on := 3, ground := Ground.guard }], guard := some (3, false) }) (v := undef) rfl (by kernel_rfl) (by kernel_rfl) (by kernel_rfl) (fun _ _ _ h => h) (Or.inr ⟨by rfl, rfl⟩) (by assumption) ?_
        try simp only [Act.put, List.setIfInBounds_toArray, List.set_cons_zero, List.set_cons_succ]
        refine wpAnyH_take (i := 5) (oi := { dst := some 25, op := Op.load 3 (Operand.tmp 24), type := 3, pos := "ref.go:51", after := #[{ on := 4, ground := Ground.data }, { on := 3, ground := Ground.guard }], guard := some (3, false) }) (v := undef) rfl (by kernel_rfl) (by kernel_rfl) (by kernel_rfl) (fun _ _ _ h => h) (Or.inr ⟨by rfl, rfl⟩) (by assumption) ?_
        try simp only [Act.put, List.setIfInBounds_toArray, List.set_cons_zero, List.set_cons_succ]
        refine wpAnyH_take (i := 6) (oi := { dst := some 26, op := Op.move (Operand.tmp 0), type := 69, pos := "ref.go:51", after := #[{ on := 3, ground := Ground.guard }], guard := some (3, false) }) (v := undef) rfl (by kernel_rfl) (by kernel_rfl) (by kernel_rfl) (fun _ _ _ h => h) (Or.inr ⟨by rfl, rfl⟩) (by assumption) ?_
        try simp only [Act.put, List.setIfInBounds_toArray, List.set_cons_zero, List.set_cons_succ]
        refine wpAnyH_take (i := 7) (oi := { dst := some 27, op := Op.nilCheck (Operand.tmp 26), type := 0, pos := "ref.go:51", after := #[{ on := 6, ground := Ground.data }, { on := 3, ground := Ground.guard }], guard := some (3, false) }) (v := undef) rfl (by kernel_rfl) (by kernel_rfl) (by kernel_rfl) (fun _ _ _ h => h) (Or.inr ⟨by rfl, rfl⟩) (by assumption) ?_
        try simp only [Act.put, List.setIfInBounds_toArray, List.set_cons_zero, List.set_cons_succ]
        refine wpAnyH_take (i := 8) (oi := { dst := some 28, op := Op.fieldAddr 103 (Operand.tmp 27) 0, type := 0, pos := "ref.go:51", after := #[{ on := 7, ground := Ground.data }, { on := 3, ground := Ground.guard }], guard := some (3, false) }) (v := undef) rfl (by kernel_rfl) (by kernel_rfl) (by kernel_rfl) (fun _ _ _ h => h) (Or.inr ⟨by rfl, rfl⟩) (by assumption) ?_
        try simp only [Act.put, List.setIfInBounds_toArray, List.set_cons_zero, List.set_cons_succ]
        refine wpAnyH_take (i := 9) (oi := { dst := some 29, op := Op.load 3 (Operand.tmp 28), type := 3, pos := "ref.go:51", after := #[{ on := 8, ground := Ground.data }, { on := 3, ground := Ground.guard }], guard := some (3, false) }) (v := undef) rfl (by kernel_rfl) (by kernel_rfl) (by kernel_rfl) (fun _ _ _ h => h) (Or.inr ⟨by rfl, rfl⟩) (by assumption) ?_
        try simp only [Act.put, List.setIfInBounds_toArray, List.set_cons_zero, List.set_cons_succ]
        refine wpAnyH_take (i := 10) (oi := { dst := some 30, op := Op.binOp BinOp.neq 3 (Operand.tmp 25) (Operand.tmp 29) 3, type := 4, pos := "ref.go:51", after := #[{ on := 5, ground := Ground.data }, { on := 9, ground := Ground.data }, { on := 3, ground := Ground.guard }], guard := some (3, false) }) (v := undef) rfl (by kernel_rfl) (by kernel_rfl) (by kernel_rfl) (fun _ _ _ h => h) (Or.inr ⟨by rfl, rfl⟩) (by assumption) ?_
        try simp only [Act.put, List.setIfInBounds_toArray, List.set_cons_zero, List.set_cons_succ]
        refine wpAnyH_take (i := 11) (oi := { dst := some 31, op := Op.pick (Operand.tmp 23) (Operand.const (Value.bool true)) (Operand.tmp 30), type := 4, pos := "ref.go:51", after := #[{ on := 3, ground := Ground.data }, { on := 10, ground := Ground.data }], guard := none }) (v := ?_) rfl (by kernel_rfl) (by kernel_rfl) (by kernel_rfl) (fun _ _ _ h => h) (Or.inl ⟨by rfl, ?_⟩) (by assumption) ?_
        rotate_left
        · intro w hSw
          (try dsimp only at hSw)
          go_simp
          try with_reducible rfl
        try simp only [Act.put, List.setIfInBounds_toArray, List.set_cons_zero, List.set_cons_succ]
        refine wpAnyH_done (by kernel_rfl) ?_ _
        have HB7 : Hid (Below X.heap.size X w7) := hide (HBY.out.trans (((show Below Y.heap.size Y Y.drew from bdrew Y 1).trans hb7).mono HBY.out.size))
        clear hb7
        have hrw : w7.heap[w.heap.size]? = some (.cells #[.int .i64 0, .int .i64 0, .int .i64 0, .int .i64 0, .int .i64 0] 40) := ((HB7.out.block w.heap.size (by have := HXS.out; omega)).trans HROW1.out.1)
        have hrw2 : w7.heap[w.heap.size + 1]? = some (.cells #[.int .i64 0, .int .i64 0, .int .i64 0, .int .i64 0, .int .i64 0] 40) := ((HB7.out.block (w.heap.size + 1) (by have := HXS.out; omega)).trans HROW1.out.2.1)
        have hbw9 : Below w.heap.size w w7 := HB1.out.trans (HB7.out.mono (by have := HXS.out; omega))
        have cb0 := cell_of_row w7 w.heap.size 0 _ 40 (0, 0) hrw
        have cb1 := cell_of_row w7 w.heap.size 1 _ 40 (0, 0) hrw
        have cb2 := cell_of_row w7 w.heap.size 2 _ 40 (0, 0) hrw
        have cb3 := cell_of_row w7 w.heap.size 3 _ 40 (0, 0) hrw
        have cb4 := cell_of_row w7 w.heap.size 4 _ 40 (0, 0) hrw
        have cf0 := frozen_of_row w7 w.heap.size 0 _ 40 hrw
        have cf1 := frozen_of_row w7 w.heap.size 1 _ 40 hrw
        have cf2 := frozen_of_row w7 w.heap.size 2 _ 40 hrw
        have cf3 := frozen_of_row w7 w.heap.size 3 _ 40 hrw
        have cf4 := frozen_of_row w7 w.heap.size 4 _ 40 hrw
        have cc0 := cell_of_row w7 (w.heap.size + 1) 0 _ 40 (0, 0) hrw2
        have cc1 := cell_of_row w7 (w.heap.size + 1) 1 _ 40 (0, 0) hrw2
        have cc2 := cell_of_row w7 (w.heap.size + 1) 2 _ 40 (0, 0) hrw2
        have cc3 := cell_of_row w7 (w.heap.size + 1) 3 _ 40 (0, 0) hrw2
        have cc4 := cell_of_row w7 (w.heap.size + 1) 4 _ 40 (0, 0) hrw2
        have HRW := hide hrw
        have HBW9 := hide hbw9
        clear hrw hrw2 hbw9
        go_wp2
        refine bodyPost_ret (v := .tuple #[cnV cn0, .int .i64 30]) (by
          have q5 := five_set HRW.out (.int .i64 0) (.int .i64 0) (.int .i64 0) (.int .i64 0) (.int .i64 0)
          generalize (((((w7.setCell ⟨w.heap.size, 0, none⟩ (.int .i64 0)).setCell ⟨w.heap.size, 1, none⟩ (.int .i64 0)).setCell ⟨w.heap.size, 2, none⟩ (.int .i64 0)).setCell ⟨w.heap.size, 3, none⟩ (.int .i64 0)).setCell ⟨w.heap.size, 4, none⟩ (.int .i64 0)) = W9 at q5 ⊢
          have m0 := cell_of_row W9 w.heap.size 0 _ 40 (0, 0) q5
          have m1 := cell_of_row W9 w.heap.size 1 _ 40 (0, 0) q5
          have m2 := cell_of_row W9 w.heap.size 2 _ 40 (0, 0) q5
          have m3 := cell_of_row W9 w.heap.size 3 _ 40 (0, 0) q5
          have m4 := cell_of_row W9 w.heap.size 4 _ 40 (0, 0) q5
          have hz9 : w.heap.size < W9.heap.size := by have := (Array.getElem?_eq_some_iff.1 q5).1; exact this
          clear q5
          unfold cnV
          simp at m0 m1 m2 m3 m4
          simp [results, Tryz.results35, go_sem, m0, m1, m2, m3, m4, hz9, cn0]) rfl ⟨by unfold addV; rw [if_neg HBAD.out], ?_, ?_⟩
        · have hc9 := five_chg (Chg.of_below HBW9.out (fun _ => False)) (.inr (Nat.le_refl w.heap.size)) (.int .i64 0) (.int .i64 0) (.int .i64 0) (.int .i64 0) (.int .i64 0)
          rw [addP, if_neg HBAD.out]
          exact HF.out.chg hc9
        · exact (five_chg (Chg.of_below HBW9.out (fun _ => False)) (.inr (Nat.le_refl w.heap.size)) (.int .i64 0) (.int .i64 0) (.int .i64 0) (.int .i64 0) (.int .i64 0)).mono (fun k hk => hk.elim)
    · have hkn : k = l.length := by omega
      subst hkn
      have hall : l.all (fun x => x.ok && decide (x.t = tr)) = true := by
        have := HR.out.2
        rwa [List.take_length] at this
      have hlok : ∀ x ∈ l, x.ok = true ∧ x.p ≠ x.i ∧ x.t = tr := fun x hx => by
        have := List.all_eq_true.1 hall x hx
        rw [Bool.and_eq_true, decide_eq_true_eq] at this
        exact ⟨this.1, ok_ne this.1, this.2⟩
      have hwr : Below w.heap.size w wr := HB1.out.trans (HR.out.1.mono (by have := HXS.out; omega))
      have hcn : CnAt wr (w.heap.size + 1) cn0 := HROW1.out.2.2.below HR.out.1
      have hrowZ : wr.heap[w.heap.size]? = some (.cells #[.int .i64 0, .int .i64 0, .int .i64 0, .int .i64 0, .int .i64 0] 40) := (HR.out.1.block w.heap.size (by have := HXS.out; omega)).trans HROW1.out.1
      have hws : w.heap.size + 2 ≤ wr.heap.size := by have := HR.out.1.size; have := HXS.out; omega
      have hfZ : RfX (fun k => T k ∨ k = w.heap.size + 1 ∨ k = w.heap.size) wr g tr L := HF.out.more (P := fun k => k = w.heap.size + 1 ∨ k = w.heap.size) hwr (by omega)
      have HALL := hide (And.intro hall hlok)
      clear hall hlok HR
      go_wp2_with fail
      obtain ⟨gc, hgc⟩ : ∃ gc, w.heap.size + 1 = gc := ⟨_, rfl⟩
      rw [hgc] at hcn hfZ
      rw [hgc]
      have hgw : g < w.heap.size := lt_of_cell c0
      have hgg : gc ≠ g := by omega
      have hgcl : w.heap.size < gc ∧ gc < wr.heap.size := by omega
      have HZ := hide (And.intro hcn (And.intro hwr (And.intro hrowZ (And.intro hfZ (And.intro hgg hgcl)))))
      have HOKL := hide hok
      clear hgc hcn hwr hrowZ hfZ hgw hgg hgcl hws hok
      obtain ⟨Z, hZ⟩ : ∃ Z, Z = wr := ⟨_, rfl⟩
      subst hZ
      go_loopw [10, 11, 12, 36] (fun _ _ _ ix wz => ∃ j : Nat, j ≤ l.length ∧ ix = .int .i64 j ∧ Hid (RfX (fun k => T k ∨ k = gc ∨ k = w.heap.size) wz g tr (putsP L cn0 (l.take j)).1 ∧ CnAt wz gc (putsP L cn0 (l.take j)).2 ∧ Chg Z wz (fun k => k = g ∨ k = gc))) (fun _ _ _ ix _ => l.length - (intOf ix).toNat)
      case atStart => exact ⟨0, by omega, rfl, hide ⟨HZ.out.2.2.2.1, HZ.out.1, Chg.refl _ _⟩⟩
      case round =>
        obtain ⟨j, hj, rfl, HJ⟩ := hrel
        have hokj : FoOk tr (putsP L cn0 (l.take j)).1 := putsP_ok _ HOKL.out fun x hx => HALL.out.2 x (List.mem_of_mem_take hx)
        have hsum : (putsP L cn0 (l.take j)).2.sum ≤ 1000000 := by
          rw [putsP_sum, List.length_take]
          show 0 + 0 + 0 + 0 + 0 + _ ≤ _
          omega
        have hsn := putsP_snoc (l.take j) L cn0
        obtain ⟨M, hM⟩ : ∃ M, (putsP L cn0 (l.take j)).1 = M := ⟨_, rfl⟩
        obtain ⟨C, hC⟩ : ∃ C, (putsP L cn0 (l.take j)).2 = C := ⟨_, rfl⟩
        rw [hM, hC] at HJ hsn
        rw [hM] at hokj
        rw [hC] at hsum
        have HMC := hide (And.intro hM hC)
        clear hM hC
        by_cases hlt : (j : Int) < (l.length : Int)
        · obtain ⟨gv, ov, rfl, hx⟩ := HV.out.1.at_ (by omega)
          obtain ⟨x, hxk⟩ : ∃ x, l[j]? = some x := ⟨_, List.getElem?_eq_getElem (by omega)⟩
          have hgvw := (hx j x hxk).lt
          have hgvg : gv ≠ g := fun e => (HV.out.2.resolve_left (fun e2 => by rw [e2] at hxk; simp at hxk)) (by rw [e]; rfl)
          have hat : SpAt wr gv (ov + j * 6) x := fun i u hu => HJ.out.2.2.cell (((hx j x hxk).below HZ.out.2.1) i u hu) (by
            rintro (h1 | h1)
            · exact hgvg h1
            · have := HZ.out.2.2.2.2.2.1
              simp only at h1
              omega)
          obtain ⟨oo, hoo⟩ : ∃ oo, ov + j * 6 = oo := ⟨_, rfl⟩
          rw [hoo] at hat
          have z0 := hat.c0
          have z1 := hat.c1
          have z2 := hat.c2
          have z3 := hat.c3
          have z4 := hat.c4
          have z5 := hat.c5
          have htk : l.take (j + 1) = l.take j ++ [x] := by rw [List.take_add_one, hxk]; rfl
          have hne3 : x.p ≠ x.i := (HALL.out.2 x (List.mem_of_getElem? hxk)).2.1
          have hnew := spAt_new wr x
          have hbx := (Below.refl wr.heap.size wr).alloc (Nat.le_refl _) (.cells #[.int .i64 x.t, .int .i64 x.i, .int .i64 x.p, .int .i64 x.s, .int .i64 x.e, .string x.n] 38)
          have hFD := refFind_any (HJ.out.1.below hbx).is x.i
          have HX := hide (And.intro hnew (And.intro hbx hne3))
          have HFD := hide hFD
          have HNX : Hid (putsP L cn0 (l.take (j + 1)) = putP M C x) := hide (by rw [htk, hsn])
          have HOKJ := hide hokj
          have hm64 := hokj.len
          clear hx hxk hat hgvw hgvg htk hnew hbx hFD hokj hne3 hsn
          obtain ⟨t, i, q, s, en, nn⟩ := x
          obtain ⟨na, ns, no, ny, nf⟩ := C
          unfold Cn.sum at hsum
          dsimp only at *
          have hna : (na : Int) ≤ 1000000 := by omega
          have hns : (ns : Int) ≤ 1000000 := by omega
          have hno : (no : Int) ≤ 1000000 := by omega
          have hny : (ny : Int) ≤ 1000000 := by omega
          have hnf : (nf : Int) ≤ 1000000 := by omega
          go_wp2_with fail
          refine HFD.out.mono ?_
          rintro e3 w3 ⟨rfl, hb3⟩
          obtain ⟨u, hu⟩ : ∃ u, (fnd M i).getD sp0 = u := ⟨_, rfl⟩
          have heq := sp_eql u ⟨t, i, q, s, en, nn⟩
          rw [hu]
          have hb4 := (Below.refl w3.heap.size w3).alloc (Nat.le_refl _) (.cells #[.int .i64 u.t, .int .i64 u.i, .int .i64 u.p, .int .i64 u.s, .int .i64 u.e, .string u.n] 38)
          have hx4 := (HX.out.1.below hb3).below hb4
          have hr4 := ((HJ.out.1.below HX.out.2.1).below hb3).below hb4
          have hc4 := ((HJ.out.2.1.below HX.out.2.1).below hb3).below hb4
          have hg4 := ((HJ.out.2.2.belowed HX.out.2.1).belowed hb3).belowed hb4
          obtain ⟨W4, hW4⟩ : ∃ W, w3.alloc (.cells #[.int .i64 u.t, .int .i64 u.i, .int .i64 u.p, .int .i64 u.s, .int .i64 u.e, .string u.n] 38) = W := ⟨_, rfl⟩
          have hu4 := spAt_new w3 u
          rw [hW4] at hx4 hr4 hc4 hg4 hu4
          obtain ⟨x0, x1, x2, x3, x4, x5⟩ := hx4.z
          obtain ⟨v0, v1, v2, v3, v4, v5⟩ := hu4.z
          dsimp only [Nat.zero_add] at x1 x2 x0 x3 x4 x5
          obtain ⟨k0, k1, k2, k3, k4, kf⟩ := hc4
          have kf0 := kf 0 (by omega)
          have kf1 := kf 1 (by omega)
          have kf2 := kf 2 (by omega)
          have kf3 := kf 3 (by omega)
          have kf4 := kf 4 (by omega)
          have H4X := hide hx4
          have H4 : Hid (RfX (fun k => T k ∨ k = gc ∨ k = w.heap.size) W4 g tr M ∧ CnAt W4 gc ⟨na, ns, no, ny, nf⟩ ∧ Chg Z W4 (fun k => k = g ∨ k = gc)) := hide ⟨hr4, ⟨k0, k1, k2, k3, k4, kf⟩, hg4⟩
          have hRG := refRing_any hr4.is HOKJ.out ⟨t, i, q, s, en, nn⟩ HX.out.2.2
          have HRG := hide hRG
          obtain ⟨vM, m1, hsM, hoM⟩ := hr4.l
          have m0 := hr4.fr
          obtain ⟨pM, nM, cM, rfl⟩ := hsM.sl
          obtain rfl : nM = M.length := hsM.len.1
          have HSM := hide (And.intro hsM hoM)
          dsimp only at k0 k1 k2 k3 k4
          clear hb3 hb4 hx4 hr4 hg4 hu4 kf hsM hoM hRG
          unfold spV
          unfold spC at heq
          dsimp only at heq
          obtain ⟨b, hb⟩ : ∃ b, (fnd M i).isSome = b := ⟨_, rfl⟩
          rw [hb]
          cases b
          · have hf : fnd M i = none := by simpa using hb
            clear heq hu hb
            by_cases h64 : (M.length : Int) = 64
            · have hres : putP M ⟨na, ns, no, ny, nf⟩ ⟨t, i, q, s, en, nn⟩ = (M, ⟨na, ns, no, ny, nf + 1⟩) := by
                unfold putP
                simp only [hf, if_pos (show 64 ≤ M.length by omega)]
              have HRES := hide hres
              have hb64 : ((M.length : Int) == 64) = true := by simp [h64]
              have hd64 : decide ((M.length : Int) = 64) = true := decide_eq_true h64
              clear hres hf h64
              go_wp2
              go_roundw
              case rel =>
                refine ⟨j + 1, by omega, by go_num, hide ?_⟩
                rw [HNX.out, HRES.out]
                exact ⟨H4.out.1.grown (grown_set _ _ _ _) (.inr (.inl rfl)) HZ.out.2.2.2.2.1, H4.out.2.1.s4, H4.out.2.2.set _ (.inl (.inr rfl))⟩
              case measure => simp [intOf]; omega
            · have hb64 : ((M.length : Int) == 64) = false := beq_eq_false_iff_ne.2 h64
              have hd64 : decide ((M.length : Int) = 64) = false := decide_eq_false h64
              have hlt64 : ¬ 64 ≤ M.length := by omega
              have HL64 := hide hlt64
              clear h64 hlt64
              cases hri : ring M i q
              · have hres : putP M ⟨na, ns, no, ny, nf⟩ ⟨t, i, q, s, en, nn⟩ = (M ++ [⟨t, i, q, s, en, nn⟩], ⟨na + 1, ns, no, ny, nf⟩) := by
                  unfold putP
                  simp only [hf, if_neg HL64.out, hri]
                  simp
                have HRES := hide hres
                rw [hri] at HRG
                clear hres hf hri
                go_wp2_with fail
                refine HRG.out.mono ?_
                rintro e5 w5 ⟨rfl, hb5⟩
                have hx5 := (H4X.out).below hb5
                have HX5 := hide hx5
                obtain ⟨x0, x1, x2, x3, x4, x5⟩ := hx5.z
                dsimp only [Nat.zero_add] at x0 x1 x2 x3 x4 x5
                clear hx5
                have H5 : Hid (RfX (fun k => T k ∨ k = gc ∨ k = w.heap.size) w5 g tr M ∧ CnAt w5 gc ⟨na, ns, no, ny, nf⟩ ∧ Chg Z w5 (fun k => k = g ∨ k = gc)) := hide ⟨H4.out.1.below hb5, H4.out.2.1.below hb5, H4.out.2.2.belowed hb5⟩
                clear hb5
                go_wp2_with fail
                obtain ⟨vM5, m5, hs5, ho5⟩ := H5.out.1.l
                have mf5 := H5.out.1.fr
                obtain ⟨pM5, nM5, cM5, rfl⟩ := hs5.sl
                obtain rfl : nM5 = M.length := hs5.len.1
                have HS5 := hide (And.intro hs5 ho5)
                clear hs5 ho5
                have q1 : ∀ o, (w5.alloc o).cell? ⟨g, 1, none⟩ = some (.slice pM5 M.length cM5) := fun o => Lib.cell?_alloc_some _ m5
                have q2 : ∀ o o', ((w5.alloc o).alloc o').cell? ⟨g, 1, none⟩ = some (.slice pM5 M.length cM5) := fun o o' => Lib.cell?_alloc_some _ (q1 o)
                have q0d : w5.drew.cell? ⟨g, 1, none⟩ = some (.slice pM5 M.length cM5) := m5
                have q1d : ∀ o, (w5.alloc o).drew.cell? ⟨g, 1, none⟩ = some (.slice pM5 M.length cM5) := fun o => q1 o
                have q1e : ∀ o, (w5.drew.alloc o).cell? ⟨g, 1, none⟩ = some (.slice pM5 M.length cM5) := fun o => Lib.cell?_alloc_some _ q0d
                have q2d : ∀ o o', ((w5.alloc o).alloc o').drew.cell? ⟨g, 1, none⟩ = some (.slice pM5 M.length cM5) := fun o o' => q2 o o'
                have q2e : ∀ o o', ((w5.drew.alloc o).alloc o').cell? ⟨g, 1, none⟩ = some (.slice pM5 M.length cM5) := fun o o' => Lib.cell?_alloc_some _ (q1e o)
                have hsps : ∀ V, Below w5.heap.size w5 V → Sps V (.slice pM5 M.length cM5) M := fun V hV => HS5.out.1.below hV
                have HSPS := hide hsps
                have hkeep : ∀ V, Below w5.heap.size w5 V → V.cell? ⟨wr.heap.size, 0, none⟩ = some (.int .i64 t) ∧ V.cell? ⟨wr.heap.size, 1, none⟩ = some (.int .i64 i) ∧ V.cell? ⟨wr.heap.size, 2, none⟩ = some (.int .i64 q) ∧ V.cell? ⟨wr.heap.size, 3, none⟩ = some (.int .i64 s) ∧ V.cell? ⟨wr.heap.size, 4, none⟩ = some (.int .i64 en) ∧ V.cell? ⟨wr.heap.size, 5, none⟩ = some (.string nn) := fun V hV => by
                  obtain ⟨a0, a1, a2, a3, a4, a5⟩ := (HX5.out.below hV).z
                  exact ⟨a0, a1, a2, a3, a4, a5⟩
                have hwg : wr.heap.size ≠ g := by
                  have h1 : g < wr.heap.size := lt_of_cell HJ.out.1.c0
                  omega
                have hkeep2 : ∀ V u, Below w5.heap.size w5 V → (fun V => V.cell? ⟨wr.heap.size, 0, none⟩ = some (.int .i64 t) ∧ V.cell? ⟨wr.heap.size, 1, none⟩ = some (.int .i64 i) ∧ V.cell? ⟨wr.heap.size, 2, none⟩ = some (.int .i64 q) ∧ V.cell? ⟨wr.heap.size, 3, none⟩ = some (.int .i64 s) ∧ V.cell? ⟨wr.heap.size, 4, none⟩ = some (.int .i64 en) ∧ V.cell? ⟨wr.heap.size, 5, none⟩ = some (.string nn)) (V.setCell ⟨g, 1, none⟩ u) := fun V u hV => by
                  obtain ⟨a0, a1, a2, a3, a4, a5⟩ := hkeep V hV
                  refine ⟨?_, ?_, ?_, ?_, ?_, ?_⟩ <;> (rw [World.cell?_setCell_other _ _ _ _ (by simp [Ne.symm hwg, hwg])]; assumption)
                have KEEP := hide (And.intro hkeep hkeep2)
                have g5 : ∀ V, Below w5.heap.size w5 V → V.cell? ⟨g, 1, none⟩ = some (.slice pM5 M.length cM5) ∧ V.frozen? ⟨g, 1, none⟩ = false := fun V hV =>
                  ⟨(hV.cell (p := ⟨g, 1, none⟩) (show g < w5.heap.size from lt_of_cell m5)).trans m5, (hV.frozen (p := ⟨g, 1, none⟩) (show g < w5.heap.size from lt_of_cell m5)).trans mf5⟩
                have G5 := hide g5
                have bE := (Below.refl w5.heap.size w5).alloc (Nat.le_refl _) (.cells #[] 38)
                have bS := (Below.refl w5.heap.size w5).alloc (Nat.le_refl _) (.cells #[.int .i64 t, .int .i64 i, .int .i64 q, .int .i64 s, .int .i64 en, .string nn] 38)
                have bES := bE.alloc bE.size (.cells #[.int .i64 t, .int .i64 i, .int .i64 q, .int .i64 s, .int .i64 en, .string nn] 38)
                have bSE := bS.alloc bS.size (.cells #[] 38)
                have oE : OwnS w5.heap.size (w5.alloc (.cells #[] 38)) (.slice (some ⟨w5.heap.size, 0, none⟩) 0 0) [] := World.ownsRow_lit w5 #[] 0 (Nat.le_refl _) (by decide) rfl
                have hsz1 : ∀ o : Obj, (w5.alloc o).heap.size = w5.heap.size + 1 := fun o => by simp
                have oSE : OwnS w5.heap.size ((w5.alloc (.cells #[.int .i64 t, .int .i64 i, .int .i64 q, .int .i64 s, .int .i64 en, .string nn] 38)).alloc (.cells #[] 38)) (.slice (some ⟨w5.heap.size + 1, 0, none⟩) 0 0) [] := by
                  have := World.ownsRow_lit (base := w5.heap.size) (e := 38) (size := 6) (w5.alloc (.cells #[.int .i64 t, .int .i64 i, .int .i64 q, .int .i64 s, .int .i64 en, .string nn] 38)) #[] 0 (by simp) (by decide) rfl
                  rw [hsz1] at this
                  exact this
                have dr : ∀ V, Below w5.heap.size w5 V → Below w5.heap.size w5 V.drew := fun V h => ⟨h.os, h.tape, h.output, h.size, h.block⟩
                have HB5 := hide (And.intro (dr _ bE) (And.intro (dr _ bES) (dr _ bSE)))
                have oES : OwnS w5.heap.size ((w5.alloc (.cells #[] 38)).alloc (.cells #[.int .i64 t, .int .i64 i, .int .i64 q, .int .i64 s, .int .i64 en, .string nn] 38)) (.slice (some ⟨w5.heap.size, 0, none⟩) 0 0) [] := World.ownsRow.alloc oE _
                have HO5 : Hid (OwnS w5.heap.size (w5.alloc (.cells #[] 38)).drew (.slice (some ⟨w5.heap.size, 0, none⟩) 0 0) [] ∧ OwnS w5.heap.size ((w5.alloc (.cells #[] 38)).alloc (.cells #[.int .i64 t, .int .i64 i, .int .i64 q, .int .i64 s, .int .i64 en, .string nn] 38)).drew (.slice (some ⟨w5.heap.size, 0, none⟩) 0 0) [] ∧ OwnS w5.heap.size ((w5.alloc (.cells #[.int .i64 t, .int .i64 i, .int .i64 q, .int .i64 s, .int .i64 en, .string nn] 38)).alloc (.cells #[] 38)).drew (.slice (some ⟨w5.heap.size + 1, 0, none⟩) 0 0) []) := hide ⟨World.ownsRow.drew oE, World.ownsRow.drew oES, World.ownsRow.drew oSE⟩
                have sES : SpAt ((w5.alloc (.cells #[] 38)).alloc (.cells #[.int .i64 t, .int .i64 i, .int .i64 q, .int .i64 s, .int .i64 en, .string nn] 38)).drew (w5.heap.size + 1) 0 ⟨t, i, q, s, en, nn⟩ := by
                  have := spAt_new (w5.alloc (.cells #[] 38)) ⟨t, i, q, s, en, nn⟩
                  rw [hsz1] at this
                  exact this
                have sSE : SpAt ((w5.alloc (.cells #[.int .i64 t, .int .i64 i, .int .i64 q, .int .i64 s, .int .i64 en, .string nn] 38)).alloc (.cells #[] 38)).drew w5.heap.size 0 ⟨t, i, q, s, en, nn⟩ := by
                  have h1 := spAt_new w5 ⟨t, i, q, s, en, nn⟩
                  have h2 := h1.below ((Below.refl (w5.alloc (.cells #[.int .i64 t, .int .i64 i, .int .i64 q, .int .i64 s, .int .i64 en, .string nn] 38)).heap.size (w5.alloc (.cells #[.int .i64 t, .int .i64 i, .int .i64 q, .int .i64 s, .int .i64 en, .string nn] 38))).alloc (Nat.le_refl _) (.cells #[] 38))
                  exact fun a b hb => h2 a b hb
                have HSA := hide (And.intro sES sSE)
                have HM64 : Hid (M.length ≤ 64) := hide hm64
                clear hsps hkeep hkeep2 g5 bE bS bES bSE oE oSE oES sES sSE hsz1 hwg dr
                refine wp_region_held_drew (S := fun V => V.cell? ⟨wr.heap.size, 0, none⟩ = some (.int .i64 t) ∧ V.cell? ⟨wr.heap.size, 1, none⟩ = some (.int .i64 i) ∧ V.cell? ⟨wr.heap.size, 2, none⟩ = some (.int .i64 q) ∧ V.cell? ⟨wr.heap.size, 3, none⟩ = some (.int .i64 s) ∧ V.cell? ⟨wr.heap.size, 4, none⟩ = some (.int .i64 en) ∧ V.cell? ⟨wr.heap.size, 5, none⟩ = some (.string nn)) (by kernel_rfl) ?_ (fun hHeld => ?_)
                · (try dsimp only)
                  first | go_keep | exact KEEP.out.1 _ ((Below.refl _ _))
                refine wpAnyH_take (i := 0) (oi := { dst := some 47, op := Op.move (Operand.tmp 0), type := 69, pos := "ref.go:67", after := #[], guard := none }) (v := ?_) rfl (by kernel_rfl) (by kernel_rfl) (by kernel_rfl) (fun _ _ _ h => h) (Or.inl ⟨by rfl, ?_⟩) (by assumption) ?_
                rotate_left
                · intro w hSw
                  (try dsimp only at hSw)
                  go_simp
                  try with_reducible rfl
                try simp only [Act.put, List.setIfInBounds_toArray, List.set_cons_zero, List.set_cons_succ]
                refine wpAnyH_take (i := 2) (oi := { dst := some 49, op := Op.move (Operand.tmp 0), type := 69, pos := "ref.go:67", after := #[], guard := none }) (v := ?_) rfl (by kernel_rfl) (by kernel_rfl) (by kernel_rfl) (fun _ _ _ h => h) (Or.inl ⟨by rfl, ?_⟩) (by assumption) ?_
                rotate_left
                · intro w hSw
                  (try dsimp only at hSw)
                  go_simp
                  try with_reducible rfl
                try simp only [Act.put, List.setIfInBounds_toArray, List.set_cons_zero, List.set_cons_succ]
                refine wpAnyH_take (i := 3) (oi := { dst := some 50, op := Op.nilCheck (Operand.tmp 49), type := 0, pos := "ref.go:67", after := #[{ on := 2, ground := Ground.data }], guard := none }) (v := ?_) rfl (by kernel_rfl) (by kernel_rfl) (by kernel_rfl) (fun _ _ _ h => h) (Or.inl ⟨by rfl, ?_⟩) (by assumption) ?_
                rotate_left
                · intro w hSw
                  (try dsimp only at hSw)
                  go_simp
                  try with_reducible rfl
                try simp only [Act.put, List.setIfInBounds_toArray, List.set_cons_zero, List.set_cons_succ]
                refine wpAnyH_take (i := 4) (oi := { dst := some 51, op := Op.fieldAddr 103 (Operand.tmp 50) 1, type := 0, pos := "ref.go:67", after := #[{ on := 3, ground := Ground.data }], guard := none }) (v := ?_) rfl (by kernel_rfl) (by kernel_rfl) (by kernel_rfl) (fun _ _ _ h => h) (Or.inl ⟨by rfl, ?_⟩) (by assumption) ?_
                rotate_left
                · intro w hSw
                  (try dsimp only at hSw)
                  go_simp
                  try with_reducible rfl
                try simp only [Act.put, List.setIfInBounds_toArray, List.set_cons_zero, List.set_cons_succ]
                refine wpAnyH_take (i := 7) (oi := { dst := some 54, op := Op.load 38 (Operand.tmp 10), type := 38, pos := "ref.go:67", after := #[], guard := none }) (v := ?_) rfl (by kernel_rfl) (by kernel_rfl) (by kernel_rfl) (fun _ _ _ h => h) (Or.inl ⟨by rfl, ?_⟩) (by assumption) ?_
                rotate_left
                · intro w hSw
                  (try dsimp only at hSw)
                  go_simp
                  try with_reducible rfl
                try simp only [Act.put, List.setIfInBounds_toArray, List.set_cons_zero, List.set_cons_succ]
                refine wpAnyH_ready (rs := [1, 5, 8]) (by kernel_rfl) (by simp) ?_
                refine AllReadyH.cons (o := { dst := some 48, op := Op.buildSlice 31 0 #[], type := 31, pos := "ref.go:67", after := #[], guard := none }) rfl (fun K hK => ?_) ?_
                · go_simp
                  first
                    | refine hK.out _ _ ?_ (fun hHeld => ?_)
                    | (go_wp2_with fail; refine hK.out _ _ ?_ (fun hHeld => ?_))
                  · (try dsimp only)
                    first | go_keep | exact KEEP.out.1 _ hbt | exact KEEP.out.2 _ _ hbt
                  clear hK K
                  try simp only [Act.put, List.setIfInBounds_toArray, List.set_cons_zero, List.set_cons_succ]
                  refine wpAnyH_ready (rs := [5, 8]) (by kernel_rfl) (by simp) ?_
                  refine AllReadyH.cons (o := { dst := some 52, op := Op.load 31 (Operand.tmp 51), type := 31, pos := "ref.go:67", after := #[{ on := 4, ground := Ground.data }], guard := none }) rfl (fun K hK => ?_) ?_
                  · go_simp
                    first
                      | refine hK.out _ _ ?_ (fun hHeld => ?_)
                      | (go_wp2_with fail; refine hK.out _ _ ?_ (fun hHeld => ?_))
                    · (try dsimp only)
                      first | go_keep | exact KEEP.out.1 _ hbt | exact KEEP.out.2 _ _ hbt
                    clear hK K
                    try simp only [Act.put, List.setIfInBounds_toArray, List.set_cons_zero, List.set_cons_succ]
                    refine wpAnyH_ready (rs := [6, 8]) (by kernel_rfl) (by simp) ?_
                    refine AllReadyH.cons (o := { dst := some 53, op := Op.call { callee := Callee.builtin Builtin.append, args := #[Operand.tmp 48, Operand.tmp 52], argTypes := #[31, 31] }, type := 31, pos := "ref.go:67", after := #[{ on := 1, ground := Ground.data }, { on := 5, ground := Ground.data }], guard := none }) rfl (fun K hK => ?_) ?_
                    · (first | (refine step_pushes (by rfl) _ _ (by rfl) (by rfl) (by rfl) (by rfl) HO5.out.1 (HSPS.out _ HB5.out.1) HB5.out.1.size (by have := HM64.out; simp; omega) ?_; intro v6 V6 ho6 hb6 hg6; obtain ⟨p6, n6, c6, rfl⟩ := ho6.sps.sl; have hbt := HB5.out.1.trans hb6; rw [List.nil_append] at ho6; have H6 := hide (And.intro ho6 (And.intro hbt hg6)); clear ho6 hb6 hg6) | (refine step_pushes (by rfl) _ _ (by rfl) (by rfl) (by rfl) (by rfl) HO5.out.2.1 (HSPS.out _ HB5.out.2.1) HB5.out.2.1.size (by have := HM64.out; simp; omega) ?_; intro v6 V6 ho6 hb6 hg6; obtain ⟨p6, n6, c6, rfl⟩ := ho6.sps.sl; have hbt := HB5.out.2.1.trans hb6; rw [List.nil_append] at ho6; have HS6 : Hid (SpAt V6 (w5.heap.size + 1) 0 ⟨t, i, q, s, en, nn⟩) := hide (fun a b hb => hg6.cell (HSA.out.1 a b hb) (by simp [Value.ownBlock])); have H6 := hide (And.intro ho6 (And.intro hbt hg6)); clear ho6 hb6 hg6) | (refine step_pushes (by rfl) _ _ (by rfl) (by rfl) (by rfl) (by rfl) HO5.out.2.2 (HSPS.out _ HB5.out.2.2) HB5.out.2.2.size (by have := HM64.out; simp; omega) ?_; intro v6 V6 ho6 hb6 hg6; obtain ⟨p6, n6, c6, rfl⟩ := ho6.sps.sl; have hbt := HB5.out.2.2.trans hb6; rw [List.nil_append] at ho6; have HS6 : Hid (SpAt V6 w5.heap.size 0 ⟨t, i, q, s, en, nn⟩) := hide (fun a b hb => hg6.cell (HSA.out.2 a b hb) (by simp [Value.ownBlock])); have H6 := hide (And.intro ho6 (And.intro hbt hg6)); clear ho6 hb6 hg6) | (refine step_pushes (by rfl) _ _ (by rfl) (by rfl) (by rfl) (by rfl) (show OwnS w5.heap.size (V6.alloc _) (.slice p6 n6 c6) M from World.ownsRow.alloc H6.out.1 _) (sps_one (spAt_new V6 ⟨t, i, q, s, en, nn⟩)) (by have := H6.out.2.1.size; simp; omega) (by have := HM64.out; simp; omega) ?_; intro v9 V9 ho9 hb9 hg9; obtain ⟨p9, n9, c9, rfl⟩ := ho9.sps.sl; have hbt := (H6.out.2.1.alloc H6.out.2.1.size _).trans hb9; have g1 := (G5.out _ hbt).1; have g2 := (G5.out _ hbt).2; have H9 := hide (And.intro ho9 hbt); clear ho9 hb9 hg9) | (refine step_pushes (by rfl) _ _ (by rfl) (by rfl) (by rfl) (by rfl) H6.out.1 (sps_one HS6.out) H6.out.2.1.size (by have := HM64.out; simp; omega) ?_; intro v9 V9 ho9 hb9 hg9; obtain ⟨p9, n9, c9, rfl⟩ := ho9.sps.sl; have hbt := H6.out.2.1.trans hb9; have g1 := (G5.out _ hbt).1; have g2 := (G5.out _ hbt).2; have H9 := hide (And.intro ho9 hbt); clear ho9 hb9 hg9))
                      refine hK.out _ _ ?_ (fun hHeld => ?_)
                      · (try dsimp only)
                        first | go_keep | exact KEEP.out.1 _ hbt | exact KEEP.out.2 _ _ hbt
                      clear hK K
                      try simp only [Act.put, List.setIfInBounds_toArray, List.set_cons_zero, List.set_cons_succ]
                      refine wpAnyH_ready (rs := [8]) (by kernel_rfl) (by simp) ?_
                      refine AllReadyH.cons (o := { dst := some 55, op := Op.buildSlice 31 1 #[(0, Operand.tmp 54)], type := 31, pos := "ref.go:67", after := #[{ on := 7, ground := Ground.data }], guard := none }) rfl (fun K hK => ?_) ?_
                      · go_simp
                        first
                          | refine hK.out _ _ ?_ (fun hHeld => ?_)
                          | (go_wp2_with fail; refine hK.out _ _ ?_ (fun hHeld => ?_))
                        · (try dsimp only)
                          first | go_keep | exact KEEP.out.1 _ hbt | exact KEEP.out.2 _ _ hbt
                        clear hK K
                        try simp only [Act.put, List.setIfInBounds_toArray, List.set_cons_zero, List.set_cons_succ]
                        refine wpAnyH_ready (rs := [9]) (by kernel_rfl) (by simp) ?_
                        refine AllReadyH.cons (o := { dst := some 56, op := Op.call { callee := Callee.builtin Builtin.append, args := #[Operand.tmp 53, Operand.tmp 55], argTypes := #[31, 31] }, type := 31, pos := "ref.go:67", after := #[{ on := 6, ground := Ground.data }, { on := 8, ground := Ground.data }, { on := 6, ground := Ground.chain }], guard := none }) rfl (fun K hK => ?_) ?_
                        · (first | (refine step_pushes (by rfl) _ _ (by rfl) (by rfl) (by rfl) (by rfl) HO5.out.1 (HSPS.out _ HB5.out.1) HB5.out.1.size (by have := HM64.out; simp; omega) ?_; intro v6 V6 ho6 hb6 hg6; obtain ⟨p6, n6, c6, rfl⟩ := ho6.sps.sl; have hbt := HB5.out.1.trans hb6; rw [List.nil_append] at ho6; have H6 := hide (And.intro ho6 (And.intro hbt hg6)); clear ho6 hb6 hg6) | (refine step_pushes (by rfl) _ _ (by rfl) (by rfl) (by rfl) (by rfl) HO5.out.2.1 (HSPS.out _ HB5.out.2.1) HB5.out.2.1.size (by have := HM64.out; simp; omega) ?_; intro v6 V6 ho6 hb6 hg6; obtain ⟨p6, n6, c6, rfl⟩ := ho6.sps.sl; have hbt := HB5.out.2.1.trans hb6; rw [List.nil_append] at ho6; have HS6 : Hid (SpAt V6 (w5.heap.size + 1) 0 ⟨t, i, q, s, en, nn⟩) := hide (fun a b hb => hg6.cell (HSA.out.1 a b hb) (by simp [Value.ownBlock])); have H6 := hide (And.intro ho6 (And.intro hbt hg6)); clear ho6 hb6 hg6) | (refine step_pushes (by rfl) _ _ (by rfl) (by rfl) (by rfl) (by rfl) HO5.out.2.2 (HSPS.out _ HB5.out.2.2) HB5.out.2.2.size (by have := HM64.out; simp; omega) ?_; intro v6 V6 ho6 hb6 hg6; obtain ⟨p6, n6, c6, rfl⟩ := ho6.sps.sl; have hbt := HB5.out.2.2.trans hb6; rw [List.nil_append] at ho6; have HS6 : Hid (SpAt V6 w5.heap.size 0 ⟨t, i, q, s, en, nn⟩) := hide (fun a b hb => hg6.cell (HSA.out.2 a b hb) (by simp [Value.ownBlock])); have H6 := hide (And.intro ho6 (And.intro hbt hg6)); clear ho6 hb6 hg6) | (refine step_pushes (by rfl) _ _ (by rfl) (by rfl) (by rfl) (by rfl) (show OwnS w5.heap.size (V6.alloc _) (.slice p6 n6 c6) M from World.ownsRow.alloc H6.out.1 _) (sps_one (spAt_new V6 ⟨t, i, q, s, en, nn⟩)) (by have := H6.out.2.1.size; simp; omega) (by have := HM64.out; simp; omega) ?_; intro v9 V9 ho9 hb9 hg9; obtain ⟨p9, n9, c9, rfl⟩ := ho9.sps.sl; have hbt := (H6.out.2.1.alloc H6.out.2.1.size _).trans hb9; have g1 := (G5.out _ hbt).1; have g2 := (G5.out _ hbt).2; have H9 := hide (And.intro ho9 hbt); clear ho9 hb9 hg9) | (refine step_pushes (by rfl) _ _ (by rfl) (by rfl) (by rfl) (by rfl) H6.out.1 (sps_one HS6.out) H6.out.2.1.size (by have := HM64.out; simp; omega) ?_; intro v9 V9 ho9 hb9 hg9; obtain ⟨p9, n9, c9, rfl⟩ := ho9.sps.sl; have hbt := H6.out.2.1.trans hb9; have g1 := (G5.out _ hbt).1; have g2 := (G5.out _ hbt).2; have H9 := hide (And.intro ho9 hbt); clear ho9 hb9 hg9))
                          refine hK.out _ _ ?_ (fun hHeld => ?_)
                          · (try dsimp only)
                            first | go_keep | exact KEEP.out.1 _ hbt | exact KEEP.out.2 _ _ hbt
                          clear hK K
                          try simp only [Act.put, List.setIfInBounds_toArray, List.set_cons_zero, List.set_cons_succ]
                          refine wpAnyH_take (i := 10) (oi := { dst := some 57, op := Op.nilCheck (Operand.tmp 47), type := 0, pos := "ref.go:67", after := #[{ on := 0, ground := Ground.data }, { on := 0, ground := Ground.phase }, { on := 1, ground := Ground.phase }, { on := 2, ground := Ground.phase }, { on := 3, ground := Ground.phase }, { on := 4, ground := Ground.phase }, { on := 5, ground := Ground.phase }, { on := 6, ground := Ground.phase }, { on := 7, ground := Ground.phase }, { on := 8, ground := Ground.phase }, { on := 9, ground := Ground.phase }], guard := none }) (v := ?_) rfl (by kernel_rfl) (by kernel_rfl) (by kernel_rfl) (fun _ _ _ h => h) (Or.inl ⟨by rfl, ?_⟩) (by assumption) ?_
                          rotate_left
                          · intro w hSw
                            (try dsimp only at hSw)
                            go_simp
                            try with_reducible rfl
                          try simp only [Act.put, List.setIfInBounds_toArray, List.set_cons_zero, List.set_cons_succ]
                          refine wpAnyH_take (i := 11) (oi := { dst := some 58, op := Op.fieldAddr 103 (Operand.tmp 57) 1, type := 0, pos := "ref.go:67", after := #[{ on := 10, ground := Ground.data }, { on := 0, ground := Ground.phase }, { on := 1, ground := Ground.phase }, { on := 2, ground := Ground.phase }, { on := 3, ground := Ground.phase }, { on := 4, ground := Ground.phase }, { on := 5, ground := Ground.phase }, { on := 6, ground := Ground.phase }, { on := 7, ground := Ground.phase }, { on := 8, ground := Ground.phase }, { on := 9, ground := Ground.phase }], guard := none }) (v := ?_) rfl (by kernel_rfl) (by kernel_rfl) (by kernel_rfl) (fun _ _ _ h => h) (Or.inl ⟨by rfl, ?_⟩) (by assumption) ?_
                          rotate_left
                          · intro w hSw
                            (try dsimp only at hSw)
                            go_simp
                            try with_reducible rfl
                          try simp only [Act.put, List.setIfInBounds_toArray, List.set_cons_zero, List.set_cons_succ]
                          refine wpAnyH_ready (rs := [12]) (by kernel_rfl) (by simp) ?_
                          refine AllReadyH.cons (o := { dst := none, op := Op.store 31 (Operand.tmp 58) (Operand.tmp 56), type := 0, pos := "ref.go:67", after := #[{ on := 11, ground := Ground.data }, { on := 9, ground := Ground.data }, { on := 9, ground := Ground.chain }, { on := 0, ground := Ground.phase }, { on := 1, ground := Ground.phase }, { on := 2, ground := Ground.phase }, { on := 3, ground := Ground.phase }, { on := 4, ground := Ground.phase }, { on := 5, ground := Ground.phase }, { on := 6, ground := Ground.phase }, { on := 7, ground := Ground.phase }, { on := 8, ground := Ground.phase }, { on := 9, ground := Ground.phase }], guard := none }) rfl (fun K hK => ?_) ?_
                          · go_simp
                            first
                              | refine hK.out _ _ ?_ (fun hHeld => ?_)
                              | (go_wp2_with fail; refine hK.out _ _ ?_ (fun hHeld => ?_))
                            · (try dsimp only)
                              first | go_keep | exact KEEP.out.1 _ hbt | exact KEEP.out.2 _ _ hbt
                            clear hK K
                            try simp only [Act.put, List.setIfInBounds_toArray, List.set_cons_zero, List.set_cons_succ]
                            refine wpAnyH_done (by kernel_rfl) ?_ _
                            have hc9 : CnAt (V9.setCell ⟨g, 1, none⟩ (.slice p9 n9 c9)) gc ⟨na, ns, no, ny, nf⟩ := (H5.out.2.1.below H9.out.2).grown (grown_set _ _ _ _) (fun e => HZ.out.2.2.2.2.1 (by injection e with e; exact e.symm))
                            have hr9 : RfX (fun k => T k ∨ k = gc ∨ k = w.heap.size) (V9.setCell ⟨g, 1, none⟩ (.slice p9 n9 c9)) g tr (M ++ [⟨t, i, q, s, en, nn⟩]) := H5.out.1.put H9.out.2 H9.out.1 (fun k hk => by
                              have h1 : g < w5.heap.size := lt_of_cell H5.out.1.c0
                              have h2 : gc < w5.heap.size := lt_of_cell H5.out.2.1.c0
                              have h3 := HZ.out.2.2.2.2.2
                              rcases hk with hk | hk | hk
                              · have := HTT.out.2 k hk
                                omega
                              · omega
                              · omega)
                            have hg9 : Chg Z (V9.setCell ⟨g, 1, none⟩ (.slice p9 n9 c9)) (fun k => k = g ∨ k = gc) := (H5.out.2.2.belowed H9.out.2).set _ (.inl (.inl rfl))
                            obtain ⟨j0, j1, j2, j3, j4, jf⟩ := hc9
                            have jf0 := jf 0 (by omega)
                            dsimp only at j0
                            have HF9 := hide (And.intro hr9 (And.intro (CnAt.mk j0 j1 j2 j3 j4 jf : CnAt (V9.setCell ⟨g, 1, none⟩ (.slice p9 n9 c9)) gc ⟨na, ns, no, ny, nf⟩) hg9))
                            clear jf hr9 hg9
                            go_wp2
                            go_roundw
                            case rel =>
                              refine ⟨j + 1, by omega, by go_num, hide ?_⟩
                              rw [HNX.out, HRES.out]
                              exact ⟨HF9.out.1.grown (grown_set _ _ _ _) (.inr (.inl rfl)) HZ.out.2.2.2.2.1, HF9.out.2.1.s0, HF9.out.2.2.set _ (.inl (.inr rfl))⟩
                            case measure => simp [intOf]; omega
                          exact AllReadyH.nil
                        exact AllReadyH.nil
                      exact AllReadyH.nil
                    refine AllReadyH.cons (o := { dst := some 55, op := Op.buildSlice 31 1 #[(0, Operand.tmp 54)], type := 31, pos := "ref.go:67", after := #[{ on := 7, ground := Ground.data }], guard := none }) rfl (fun K hK => ?_) ?_
                    · go_simp
                      first
                        | refine hK.out _ _ ?_ (fun hHeld => ?_)
                        | (go_wp2_with fail; refine hK.out _ _ ?_ (fun hHeld => ?_))
                      · (try dsimp only)
                        first | go_keep | exact KEEP.out.1 _ hbt | exact KEEP.out.2 _ _ hbt
                      clear hK K
                      try simp only [Act.put, List.setIfInBounds_toArray, List.set_cons_zero, List.set_cons_succ]
                      refine wpAnyH_ready (rs := [6]) (by kernel_rfl) (by simp) ?_
                      refine AllReadyH.cons (o := { dst := some 53, op := Op.call { callee := Callee.builtin Builtin.append, args := #[Operand.tmp 48, Operand.tmp 52], argTypes := #[31, 31] }, type := 31, pos := "ref.go:67", after := #[{ on := 1, ground := Ground.data }, { on := 5, ground := Ground.data }], guard := none }) rfl (fun K hK => ?_) ?_
                      · (first | (refine step_pushes (by rfl) _ _ (by rfl) (by rfl) (by rfl) (by rfl) HO5.out.1 (HSPS.out _ HB5.out.1) HB5.out.1.size (by have := HM64.out; simp; omega) ?_; intro v6 V6 ho6 hb6 hg6; obtain ⟨p6, n6, c6, rfl⟩ := ho6.sps.sl; have hbt := HB5.out.1.trans hb6; rw [List.nil_append] at ho6; have H6 := hide (And.intro ho6 (And.intro hbt hg6)); clear ho6 hb6 hg6) | (refine step_pushes (by rfl) _ _ (by rfl) (by rfl) (by rfl) (by rfl) HO5.out.2.1 (HSPS.out _ HB5.out.2.1) HB5.out.2.1.size (by have := HM64.out; simp; omega) ?_; intro v6 V6 ho6 hb6 hg6; obtain ⟨p6, n6, c6, rfl⟩ := ho6.sps.sl; have hbt := HB5.out.2.1.trans hb6; rw [List.nil_append] at ho6; have HS6 : Hid (SpAt V6 (w5.heap.size + 1) 0 ⟨t, i, q, s, en, nn⟩) := hide (fun a b hb => hg6.cell (HSA.out.1 a b hb) (by simp [Value.ownBlock])); have H6 := hide (And.intro ho6 (And.intro hbt hg6)); clear ho6 hb6 hg6) | (refine step_pushes (by rfl) _ _ (by rfl) (by rfl) (by rfl) (by rfl) HO5.out.2.2 (HSPS.out _ HB5.out.2.2) HB5.out.2.2.size (by have := HM64.out; simp; omega) ?_; intro v6 V6 ho6 hb6 hg6; obtain ⟨p6, n6, c6, rfl⟩ := ho6.sps.sl; have hbt := HB5.out.2.2.trans hb6; rw [List.nil_append] at ho6; have HS6 : Hid (SpAt V6 w5.heap.size 0 ⟨t, i, q, s, en, nn⟩) := hide (fun a b hb => hg6.cell (HSA.out.2 a b hb) (by simp [Value.ownBlock])); have H6 := hide (And.intro ho6 (And.intro hbt hg6)); clear ho6 hb6 hg6) | (refine step_pushes (by rfl) _ _ (by rfl) (by rfl) (by rfl) (by rfl) (show OwnS w5.heap.size (V6.alloc _) (.slice p6 n6 c6) M from World.ownsRow.alloc H6.out.1 _) (sps_one (spAt_new V6 ⟨t, i, q, s, en, nn⟩)) (by have := H6.out.2.1.size; simp; omega) (by have := HM64.out; simp; omega) ?_; intro v9 V9 ho9 hb9 hg9; obtain ⟨p9, n9, c9, rfl⟩ := ho9.sps.sl; have hbt := (H6.out.2.1.alloc H6.out.2.1.size _).trans hb9; have g1 := (G5.out _ hbt).1; have g2 := (G5.out _ hbt).2; have H9 := hide (And.intro ho9 hbt); clear ho9 hb9 hg9) | (refine step_pushes (by rfl) _ _ (by rfl) (by rfl) (by rfl) (by rfl) H6.out.1 (sps_one HS6.out) H6.out.2.1.size (by have := HM64.out; simp; omega) ?_; intro v9 V9 ho9 hb9 hg9; obtain ⟨p9, n9, c9, rfl⟩ := ho9.sps.sl; have hbt := H6.out.2.1.trans hb9; have g1 := (G5.out _ hbt).1; have g2 := (G5.out _ hbt).2; have H9 := hide (And.intro ho9 hbt); clear ho9 hb9 hg9))
                        refine hK.out _ _ ?_ (fun hHeld => ?_)
                        · (try dsimp only)
                          first | go_keep | exact KEEP.out.1 _ hbt | exact KEEP.out.2 _ _ hbt
                        clear hK K
                        try simp only [Act.put, List.setIfInBounds_toArray, List.set_cons_zero, List.set_cons_succ]
                        refine wpAnyH_ready (rs := [9]) (by kernel_rfl) (by simp) ?_
                        refine AllReadyH.cons (o := { dst := some 56, op := Op.call { callee := Callee.builtin Builtin.append, args := #[Operand.tmp 53, Operand.tmp 55], argTypes := #[31, 31] }, type := 31, pos := "ref.go:67", after := #[{ on := 6, ground := Ground.data }, { on := 8, ground := Ground.data }, { on := 6, ground := Ground.chain }], guard := none }) rfl (fun K hK => ?_) ?_
                        · (first | (refine step_pushes (by rfl) _ _ (by rfl) (by rfl) (by rfl) (by rfl) HO5.out.1 (HSPS.out _ HB5.out.1) HB5.out.1.size (by have := HM64.out; simp; omega) ?_; intro v6 V6 ho6 hb6 hg6; obtain ⟨p6, n6, c6, rfl⟩ := ho6.sps.sl; have hbt := HB5.out.1.trans hb6; rw [List.nil_append] at ho6; have H6 := hide (And.intro ho6 (And.intro hbt hg6)); clear ho6 hb6 hg6) | (refine step_pushes (by rfl) _ _ (by rfl) (by rfl) (by rfl) (by rfl) HO5.out.2.1 (HSPS.out _ HB5.out.2.1) HB5.out.2.1.size (by have := HM64.out; simp; omega) ?_; intro v6 V6 ho6 hb6 hg6; obtain ⟨p6, n6, c6, rfl⟩ := ho6.sps.sl; have hbt := HB5.out.2.1.trans hb6; rw [List.nil_append] at ho6; have HS6 : Hid (SpAt V6 (w5.heap.size + 1) 0 ⟨t, i, q, s, en, nn⟩) := hide (fun a b hb => hg6.cell (HSA.out.1 a b hb) (by simp [Value.ownBlock])); have H6 := hide (And.intro ho6 (And.intro hbt hg6)); clear ho6 hb6 hg6) | (refine step_pushes (by rfl) _ _ (by rfl) (by rfl) (by rfl) (by rfl) HO5.out.2.2 (HSPS.out _ HB5.out.2.2) HB5.out.2.2.size (by have := HM64.out; simp; omega) ?_; intro v6 V6 ho6 hb6 hg6; obtain ⟨p6, n6, c6, rfl⟩ := ho6.sps.sl; have hbt := HB5.out.2.2.trans hb6; rw [List.nil_append] at ho6; have HS6 : Hid (SpAt V6 w5.heap.size 0 ⟨t, i, q, s, en, nn⟩) := hide (fun a b hb => hg6.cell (HSA.out.2 a b hb) (by simp [Value.ownBlock])); have H6 := hide (And.intro ho6 (And.intro hbt hg6)); clear ho6 hb6 hg6) | (refine step_pushes (by rfl) _ _ (by rfl) (by rfl) (by rfl) (by rfl) (show OwnS w5.heap.size (V6.alloc _) (.slice p6 n6 c6) M from World.ownsRow.alloc H6.out.1 _) (sps_one (spAt_new V6 ⟨t, i, q, s, en, nn⟩)) (by have := H6.out.2.1.size; simp; omega) (by have := HM64.out; simp; omega) ?_; intro v9 V9 ho9 hb9 hg9; obtain ⟨p9, n9, c9, rfl⟩ := ho9.sps.sl; have hbt := (H6.out.2.1.alloc H6.out.2.1.size _).trans hb9; have g1 := (G5.out _ hbt).1; have g2 := (G5.out _ hbt).2; have H9 := hide (And.intro ho9 hbt); clear ho9 hb9 hg9) | (refine step_pushes (by rfl) _ _ (by rfl) (by rfl) (by rfl) (by rfl) H6.out.1 (sps_one HS6.out) H6.out.2.1.size (by have := HM64.out; simp; omega) ?_; intro v9 V9 ho9 hb9 hg9; obtain ⟨p9, n9, c9, rfl⟩ := ho9.sps.sl; have hbt := H6.out.2.1.trans hb9; have g1 := (G5.out _ hbt).1; have g2 := (G5.out _ hbt).2; have H9 := hide (And.intro ho9 hbt); clear ho9 hb9 hg9))
                          refine hK.out _ _ ?_ (fun hHeld => ?_)
                          · (try dsimp only)
                            first | go_keep | exact KEEP.out.1 _ hbt | exact KEEP.out.2 _ _ hbt
                          clear hK K
                          try simp only [Act.put, List.setIfInBounds_toArray, List.set_cons_zero, List.set_cons_succ]
                          refine wpAnyH_take (i := 10) (oi := { dst := some 57, op := Op.nilCheck (Operand.tmp 47), type := 0, pos := "ref.go:67", after := #[{ on := 0, ground := Ground.data }, { on := 0, ground := Ground.phase }, { on := 1, ground := Ground.phase }, { on := 2, ground := Ground.phase }, { on := 3, ground := Ground.phase }, { on := 4, ground := Ground.phase }, { on := 5, ground := Ground.phase }, { on := 6, ground := Ground.phase }, { on := 7, ground := Ground.phase }, { on := 8, ground := Ground.phase }, { on := 9, ground := Ground.phase }], guard := none }) (v := ?_) rfl (by kernel_rfl) (by kernel_rfl) (by kernel_rfl) (fun _ _ _ h => h) (Or.inl ⟨by rfl, ?_⟩) (by assumption) ?_
                          rotate_left
                          · intro w hSw
                            (try dsimp only at hSw)
                            go_simp
                            try with_reducible rfl
                          try simp only [Act.put, List.setIfInBounds_toArray, List.set_cons_zero, List.set_cons_succ]
                          refine wpAnyH_take (i := 11) (oi := { dst := some 58, op := Op.fieldAddr 103 (Operand.tmp 57) 1, type := 0, pos := "ref.go:67", after := #[{ on := 10, ground := Ground.data }, { on := 0, ground := Ground.phase }, { on := 1, ground := Ground.phase }, { on := 2, ground := Ground.phase }, { on := 3, ground := Ground.phase }, { on := 4, ground := Ground.phase }, { on := 5, ground := Ground.phase }, { on := 6, ground := Ground.phase }, { on := 7, ground := Ground.phase }, { on := 8, ground := Ground.phase }, { on := 9, ground := Ground.phase }], guard := none }) (v := ?_) rfl (by kernel_rfl) (by kernel_rfl) (by kernel_rfl) (fun _ _ _ h => h) (Or.inl ⟨by rfl, ?_⟩) (by assumption) ?_
                          rotate_left
                          · intro w hSw
                            (try dsimp only at hSw)
                            go_simp
                            try with_reducible rfl
                          try simp only [Act.put, List.setIfInBounds_toArray, List.set_cons_zero, List.set_cons_succ]
                          refine wpAnyH_ready (rs := [12]) (by kernel_rfl) (by simp) ?_
                          refine AllReadyH.cons (o := { dst := none, op := Op.store 31 (Operand.tmp 58) (Operand.tmp 56), type := 0, pos := "ref.go:67", after := #[{ on := 11, ground := Ground.data }, { on := 9, ground := Ground.data }, { on := 9, ground := Ground.chain }, { on := 0, ground := Ground.phase }, { on := 1, ground := Ground.phase }, { on := 2, ground := Ground.phase }, { on := 3, ground := Ground.phase }, { on := 4, ground := Ground.phase }, { on := 5, ground := Ground.phase }, { on := 6, ground := Ground.phase }, { on := 7, ground := Ground.phase }, { on := 8, ground := Ground.phase }, { on := 9, ground := Ground.phase }], guard := none }) rfl (fun K hK => ?_) ?_
                          · go_simp
                            first
                              | refine hK.out _ _ ?_ (fun hHeld => ?_)
                              | (go_wp2_with fail; refine hK.out _ _ ?_ (fun hHeld => ?_))
                            · (try dsimp only)
                              first | go_keep | exact KEEP.out.1 _ hbt | exact KEEP.out.2 _ _ hbt
                            clear hK K
                            try simp only [Act.put, List.setIfInBounds_toArray, List.set_cons_zero, List.set_cons_succ]
                            refine wpAnyH_done (by kernel_rfl) ?_ _
                            have hc9 : CnAt (V9.setCell ⟨g, 1, none⟩ (.slice p9 n9 c9)) gc ⟨na, ns, no, ny, nf⟩ := (H5.out.2.1.below H9.out.2).grown (grown_set _ _ _ _) (fun e => HZ.out.2.2.2.2.1 (by injection e with e; exact e.symm))
                            have hr9 : RfX (fun k => T k ∨ k = gc ∨ k = w.heap.size) (V9.setCell ⟨g, 1, none⟩ (.slice p9 n9 c9)) g tr (M ++ [⟨t, i, q, s, en, nn⟩]) := H5.out.1.put H9.out.2 H9.out.1 (fun k hk => by
                              have h1 : g < w5.heap.size := lt_of_cell H5.out.1.c0
                              have h2 : gc < w5.heap.size := lt_of_cell H5.out.2.1.c0
                              have h3 := HZ.out.2.2.2.2.2
                              rcases hk with hk | hk | hk
                              · have := HTT.out.2 k hk
                                omega
                              · omega
                              · omega)
                            have hg9 : Chg Z (V9.setCell ⟨g, 1, none⟩ (.slice p9 n9 c9)) (fun k => k = g ∨ k = gc) := (H5.out.2.2.belowed H9.out.2).set _ (.inl (.inl rfl))
                            obtain ⟨j0, j1, j2, j3, j4, jf⟩ := hc9
                            have jf0 := jf 0 (by omega)
                            dsimp only at j0
                            have HF9 := hide (And.intro hr9 (And.intro (CnAt.mk j0 j1 j2 j3 j4 jf : CnAt (V9.setCell ⟨g, 1, none⟩ (.slice p9 n9 c9)) gc ⟨na, ns, no, ny, nf⟩) hg9))
                            clear jf hr9 hg9
                            go_wp2
                            go_roundw
                            case rel =>
                              refine ⟨j + 1, by omega, by go_num, hide ?_⟩
                              rw [HNX.out, HRES.out]
                              exact ⟨HF9.out.1.grown (grown_set _ _ _ _) (.inr (.inl rfl)) HZ.out.2.2.2.2.1, HF9.out.2.1.s0, HF9.out.2.2.set _ (.inl (.inr rfl))⟩
                            case measure => simp [intOf]; omega
                          exact AllReadyH.nil
                        exact AllReadyH.nil
                      exact AllReadyH.nil
                    exact AllReadyH.nil
                  refine AllReadyH.cons (o := { dst := some 55, op := Op.buildSlice 31 1 #[(0, Operand.tmp 54)], type := 31, pos := "ref.go:67", after := #[{ on := 7, ground := Ground.data }], guard := none }) rfl (fun K hK => ?_) ?_
                  · go_simp
                    first
                      | refine hK.out _ _ ?_ (fun hHeld => ?_)
                      | (go_wp2_with fail; refine hK.out _ _ ?_ (fun hHeld => ?_))
                    · (try dsimp only)
                      first | go_keep | exact KEEP.out.1 _ hbt | exact KEEP.out.2 _ _ hbt
                    clear hK K
                    try simp only [Act.put, List.setIfInBounds_toArray, List.set_cons_zero, List.set_cons_succ]
                    refine wpAnyH_ready (rs := [5]) (by kernel_rfl) (by simp) ?_
                    refine AllReadyH.cons (o := { dst := some 52, op := Op.load 31 (Operand.tmp 51), type := 31, pos := "ref.go:67", after := #[{ on := 4, ground := Ground.data }], guard := none }) rfl (fun K hK => ?_) ?_
                    · go_simp
                      first
                        | refine hK.out _ _ ?_ (fun hHeld => ?_)
                        | (go_wp2_with fail; refine hK.out _ _ ?_ (fun hHeld => ?_))
                      · (try dsimp only)
                        first | go_keep | exact KEEP.out.1 _ hbt | exact KEEP.out.2 _ _ hbt
                      clear hK K
                      try simp only [Act.put, List.setIfInBounds_toArray, List.set_cons_zero, List.set_cons_succ]
                      refine wpAnyH_ready (rs := [6]) (by kernel_rfl) (by simp) ?_
                      refine AllReadyH.cons (o := { dst := some 53, op := Op.call { callee := Callee.builtin Builtin.append, args := #[Operand.tmp 48, Operand.tmp 52], argTypes := #[31, 31] }, type := 31, pos := "ref.go:67", after := #[{ on := 1, ground := Ground.data }, { on := 5, ground := Ground.data }], guard := none }) rfl (fun K hK => ?_) ?_
                      · (first | (refine step_pushes (by rfl) _ _ (by rfl) (by rfl) (by rfl) (by rfl) HO5.out.1 (HSPS.out _ HB5.out.1) HB5.out.1.size (by have := HM64.out; simp; omega) ?_; intro v6 V6 ho6 hb6 hg6; obtain ⟨p6, n6, c6, rfl⟩ := ho6.sps.sl; have hbt := HB5.out.1.trans hb6; rw [List.nil_append] at ho6; have H6 := hide (And.intro ho6 (And.intro hbt hg6)); clear ho6 hb6 hg6) | (refine step_pushes (by rfl) _ _ (by rfl) (by rfl) (by rfl) (by rfl) HO5.out.2.1 (HSPS.out _ HB5.out.2.1) HB5.out.2.1.size (by have := HM64.out; simp; omega) ?_; intro v6 V6 ho6 hb6 hg6; obtain ⟨p6, n6, c6, rfl⟩ := ho6.sps.sl; have hbt := HB5.out.2.1.trans hb6; rw [List.nil_append] at ho6; have HS6 : Hid (SpAt V6 (w5.heap.size + 1) 0 ⟨t, i, q, s, en, nn⟩) := hide (fun a b hb => hg6.cell (HSA.out.1 a b hb) (by simp [Value.ownBlock])); have H6 := hide (And.intro ho6 (And.intro hbt hg6)); clear ho6 hb6 hg6) | (refine step_pushes (by rfl) _ _ (by rfl) (by rfl) (by rfl) (by rfl) HO5.out.2.2 (HSPS.out _ HB5.out.2.2) HB5.out.2.2.size (by have := HM64.out; simp; omega) ?_; intro v6 V6 ho6 hb6 hg6; obtain ⟨p6, n6, c6, rfl⟩ := ho6.sps.sl; have hbt := HB5.out.2.2.trans hb6; rw [List.nil_append] at ho6; have HS6 : Hid (SpAt V6 w5.heap.size 0 ⟨t, i, q, s, en, nn⟩) := hide (fun a b hb => hg6.cell (HSA.out.2 a b hb) (by simp [Value.ownBlock])); have H6 := hide (And.intro ho6 (And.intro hbt hg6)); clear ho6 hb6 hg6) | (refine step_pushes (by rfl) _ _ (by rfl) (by rfl) (by rfl) (by rfl) (show OwnS w5.heap.size (V6.alloc _) (.slice p6 n6 c6) M from World.ownsRow.alloc H6.out.1 _) (sps_one (spAt_new V6 ⟨t, i, q, s, en, nn⟩)) (by have := H6.out.2.1.size; simp; omega) (by have := HM64.out; simp; omega) ?_; intro v9 V9 ho9 hb9 hg9; obtain ⟨p9, n9, c9, rfl⟩ := ho9.sps.sl; have hbt := (H6.out.2.1.alloc H6.out.2.1.size _).trans hb9; have g1 := (G5.out _ hbt).1; have g2 := (G5.out _ hbt).2; have H9 := hide (And.intro ho9 hbt); clear ho9 hb9 hg9) | (refine step_pushes (by rfl) _ _ (by rfl) (by rfl) (by rfl) (by rfl) H6.out.1 (sps_one HS6.out) H6.out.2.1.size (by have := HM64.out; simp; omega) ?_; intro v9 V9 ho9 hb9 hg9; obtain ⟨p9, n9, c9, rfl⟩ := ho9.sps.sl; have hbt := H6.out.2.1.trans hb9; have g1 := (G5.out _ hbt).1; have g2 := (G5.out _ hbt).2; have H9 := hide (And.intro ho9 hbt); clear ho9 hb9 hg9))
                        refine hK.out _ _ ?_ (fun hHeld => ?_)
                        · (try dsimp only)
                          first | go_keep | exact KEEP.out.1 _ hbt | exact KEEP.out.2 _ _ hbt
                        clear hK K
                        try simp only [Act.put, List.setIfInBounds_toArray, List.set_cons_zero, List.set_cons_succ]
                        refine wpAnyH_ready (rs := [9]) (by kernel_rfl) (by simp) ?_
                        refine AllReadyH.cons (o := { dst := some 56, op := Op.call { callee := Callee.builtin Builtin.append, args := #[Operand.tmp 53, Operand.tmp 55], argTypes := #[31, 31] }, type := 31, pos := "ref.go:67", after := #[{ on := 6, ground := Ground.data }, { on := 8, ground := Ground.data }, { on := 6, ground := Ground.chain }], guard := none }) rfl (fun K hK => ?_) ?_
                        · (first | (refine step_pushes (by rfl) _ _ (by rfl) (by rfl) (by rfl) (by rfl) HO5.out.1 (HSPS.out _ HB5.out.1) HB5.out.1.size (by have := HM64.out; simp; omega) ?_; intro v6 V6 ho6 hb6 hg6; obtain ⟨p6, n6, c6, rfl⟩ := ho6.sps.sl; have hbt := HB5.out.1.trans hb6; rw [List.nil_append] at ho6; have H6 := hide (And.intro ho6 (And.intro hbt hg6)); clear ho6 hb6 hg6) | (refine step_pushes (by rfl) _ _ (by rfl) (by rfl) (by rfl) (by rfl) HO5.out.2.1 (HSPS.out _ HB5.out.2.1) HB5.out.2.1.size (by have := HM64.out; simp; omega) ?_; intro v6 V6 ho6 hb6 hg6; obtain ⟨p6, n6, c6, rfl⟩ := ho6.sps.sl; have hbt := HB5.out.2.1.trans hb6; rw [List.nil_append] at ho6; have HS6 : Hid (SpAt V6 (w5.heap.size + 1) 0 ⟨t, i, q, s, en, nn⟩) := hide (fun a b hb => hg6.cell (HSA.out.1 a b hb) (by simp [Value.ownBlock])); have H6 := hide (And.intro ho6 (And.intro hbt hg6)); clear ho6 hb6 hg6) | (refine step_pushes (by rfl) _ _ (by rfl) (by rfl) (by rfl) (by rfl) HO5.out.2.2 (HSPS.out _ HB5.out.2.2) HB5.out.2.2.size (by have := HM64.out; simp; omega) ?_; intro v6 V6 ho6 hb6 hg6; obtain ⟨p6, n6, c6, rfl⟩ := ho6.sps.sl; have hbt := HB5.out.2.2.trans hb6; rw [List.nil_append] at ho6; have HS6 : Hid (SpAt V6 w5.heap.size 0 ⟨t, i, q, s, en, nn⟩) := hide (fun a b hb => hg6.cell (HSA.out.2 a b hb) (by simp [Value.ownBlock])); have H6 := hide (And.intro ho6 (And.intro hbt hg6)); clear ho6 hb6 hg6) | (refine step_pushes (by rfl) _ _ (by rfl) (by rfl) (by rfl) (by rfl) (show OwnS w5.heap.size (V6.alloc _) (.slice p6 n6 c6) M from World.ownsRow.alloc H6.out.1 _) (sps_one (spAt_new V6 ⟨t, i, q, s, en, nn⟩)) (by have := H6.out.2.1.size; simp; omega) (by have := HM64.out; simp; omega) ?_; intro v9 V9 ho9 hb9 hg9; obtain ⟨p9, n9, c9, rfl⟩ := ho9.sps.sl; have hbt := (H6.out.2.1.alloc H6.out.2.1.size _).trans hb9; have g1 := (G5.out _ hbt).1; have g2 := (G5.out _ hbt).2; have H9 := hide (And.intro ho9 hbt); clear ho9 hb9 hg9) | (refine step_pushes (by rfl) _ _ (by rfl) (by rfl) (by rfl) (by rfl) H6.out.1 (sps_one HS6.out) H6.out.2.1.size (by have := HM64.out; simp; omega) ?_; intro v9 V9 ho9 hb9 hg9; obtain ⟨p9, n9, c9, rfl⟩ := ho9.sps.sl; have hbt := H6.out.2.1.trans hb9; have g1 := (G5.out _ hbt).1; have g2 := (G5.out _ hbt).2; have H9 := hide (And.intro ho9 hbt); clear ho9 hb9 hg9))
                          refine hK.out _ _ ?_ (fun hHeld => ?_)
                          · (try dsimp only)
                            first | go_keep | exact KEEP.out.1 _ hbt | exact KEEP.out.2 _ _ hbt
                          clear hK K
                          try simp only [Act.put, List.setIfInBounds_toArray, List.set_cons_zero, List.set_cons_succ]
                          refine wpAnyH_take (i := 10) (oi := { dst := some 57, op := Op.nilCheck (Operand.tmp 47), type := 0, pos := "ref.go:67", after := #[{ on := 0, ground := Ground.data }, { on := 0, ground := Ground.phase }, { on := 1, ground := Ground.phase }, { on := 2, ground := Ground.phase }, { on := 3, ground := Ground.phase }, { on := 4, ground := Ground.phase }, { on := 5, ground := Ground.phase }, { on := 6, ground := Ground.phase }, { on := 7, ground := Ground.phase }, { on := 8, ground := Ground.phase }, { on := 9, ground := Ground.phase }], guard := none }) (v := ?_) rfl (by kernel_rfl) (by kernel_rfl) (by kernel_rfl) (fun _ _ _ h => h) (Or.inl ⟨by rfl, ?_⟩) (by assumption) ?_
                          rotate_left
                          · intro w hSw
                            (try dsimp only at hSw)
                            go_simp
                            try with_reducible rfl
                          try simp only [Act.put, List.setIfInBounds_toArray, List.set_cons_zero, List.set_cons_succ]
                          refine wpAnyH_take (i := 11) (oi := { dst := some 58, op := Op.fieldAddr 103 (Operand.tmp 57) 1, type := 0, pos := "ref.go:67", after := #[{ on := 10, ground := Ground.data }, { on := 0, ground := Ground.phase }, { on := 1, ground := Ground.phase }, { on := 2, ground := Ground.phase }, { on := 3, ground := Ground.phase }, { on := 4, ground := Ground.phase }, { on := 5, ground := Ground.phase }, { on := 6, ground := Ground.phase }, { on := 7, ground := Ground.phase }, { on := 8, ground := Ground.phase }, { on := 9, ground := Ground.phase }], guard := none }) (v := ?_) rfl (by kernel_rfl) (by kernel_rfl) (by kernel_rfl) (fun _ _ _ h => h) (Or.inl ⟨by rfl, ?_⟩) (by assumption) ?_
                          rotate_left
                          · intro w hSw
                            (try dsimp only at hSw)
                            go_simp
                            try with_reducible rfl
                          try simp only [Act.put, List.setIfInBounds_toArray, List.set_cons_zero, List.set_cons_succ]
                          refine wpAnyH_ready (rs := [12]) (by kernel_rfl) (by simp) ?_
                          refine AllReadyH.cons (o := { dst := none, op := Op.store 31 (Operand.tmp 58) (Operand.tmp 56), type := 0, pos := "ref.go:67", after := #[{ on := 11, ground := Ground.data }, { on := 9, ground := Ground.data }, { on := 9, ground := Ground.chain }, { on := 0, ground := Ground.phase }, { on := 1, ground := Ground.phase }, { on := 2, ground := Ground.phase }, { on := 3, ground := Ground.phase }, { on := 4, ground := Ground.phase }, { on := 5, ground := Ground.phase }, { on := 6, ground := Ground.phase }, { on := 7, ground := Ground.phase }, { on := 8, ground := Ground.phase }, { on := 9, ground := Ground.phase }], guard := none }) rfl (fun K hK => ?_) ?_
                          · go_simp
                            first
                              | refine hK.out _ _ ?_ (fun hHeld => ?_)
                              | (go_wp2_with fail; refine hK.out _ _ ?_ (fun hHeld => ?_))
                            · (try dsimp only)
                              first | go_keep | exact KEEP.out.1 _ hbt | exact KEEP.out.2 _ _ hbt
                            clear hK K
                            try simp only [Act.put, List.setIfInBounds_toArray, List.set_cons_zero, List.set_cons_succ]
                            refine wpAnyH_done (by kernel_rfl) ?_ _
                            have hc9 : CnAt (V9.setCell ⟨g, 1, none⟩ (.slice p9 n9 c9)) gc ⟨na, ns, no, ny, nf⟩ := (H5.out.2.1.below H9.out.2).grown (grown_set _ _ _ _) (fun e => HZ.out.2.2.2.2.1 (by injection e with e; exact e.symm))
                            have hr9 : RfX (fun k => T k ∨ k = gc ∨ k = w.heap.size) (V9.setCell ⟨g, 1, none⟩ (.slice p9 n9 c9)) g tr (M ++ [⟨t, i, q, s, en, nn⟩]) := H5.out.1.put H9.out.2 H9.out.1 (fun k hk => by
                              have h1 : g < w5.heap.size := lt_of_cell H5.out.1.c0
                              have h2 : gc < w5.heap.size := lt_of_cell H5.out.2.1.c0
                              have h3 := HZ.out.2.2.2.2.2
                              rcases hk with hk | hk | hk
                              · have := HTT.out.2 k hk
                                omega
                              · omega
                              · omega)
                            have hg9 : Chg Z (V9.setCell ⟨g, 1, none⟩ (.slice p9 n9 c9)) (fun k => k = g ∨ k = gc) := (H5.out.2.2.belowed H9.out.2).set _ (.inl (.inl rfl))
                            obtain ⟨j0, j1, j2, j3, j4, jf⟩ := hc9
                            have jf0 := jf 0 (by omega)
                            dsimp only at j0
                            have HF9 := hide (And.intro hr9 (And.intro (CnAt.mk j0 j1 j2 j3 j4 jf : CnAt (V9.setCell ⟨g, 1, none⟩ (.slice p9 n9 c9)) gc ⟨na, ns, no, ny, nf⟩) hg9))
                            clear jf hr9 hg9
                            go_wp2
                            go_roundw
                            case rel =>
                              refine ⟨j + 1, by omega, by go_num, hide ?_⟩
                              rw [HNX.out, HRES.out]
                              exact ⟨HF9.out.1.grown (grown_set _ _ _ _) (.inr (.inl rfl)) HZ.out.2.2.2.2.1, HF9.out.2.1.s0, HF9.out.2.2.set _ (.inl (.inr rfl))⟩
                            case measure => simp [intOf]; omega
                          exact AllReadyH.nil
                        exact AllReadyH.nil
                      exact AllReadyH.nil
                    exact AllReadyH.nil
                  exact AllReadyH.nil
                refine AllReadyH.cons (o := { dst := some 52, op := Op.load 31 (Operand.tmp 51), type := 31, pos := "ref.go:67", after := #[{ on := 4, ground := Ground.data }], guard := none }) rfl (fun K hK => ?_) ?_
                · go_simp
                  first
                    | refine hK.out _ _ ?_ (fun hHeld => ?_)
                    | (go_wp2_with fail; refine hK.out _ _ ?_ (fun hHeld => ?_))
                  · (try dsimp only)
                    first | go_keep | exact KEEP.out.1 _ hbt | exact KEEP.out.2 _ _ hbt
                  clear hK K
                  try simp only [Act.put, List.setIfInBounds_toArray, List.set_cons_zero, List.set_cons_succ]
                  refine wpAnyH_ready (rs := [1, 8]) (by kernel_rfl) (by simp) ?_
                  refine AllReadyH.cons (o := { dst := some 48, op := Op.buildSlice 31 0 #[], type := 31, pos := "ref.go:67", after := #[], guard := none }) rfl (fun K hK => ?_) ?_
                  · go_simp
                    first
                      | refine hK.out _ _ ?_ (fun hHeld => ?_)
                      | (go_wp2_with fail; refine hK.out _ _ ?_ (fun hHeld => ?_))
                    · (try dsimp only)
                      first | go_keep | exact KEEP.out.1 _ hbt | exact KEEP.out.2 _ _ hbt
                    clear hK K
                    try simp only [Act.put, List.setIfInBounds_toArray, List.set_cons_zero, List.set_cons_succ]
                    refine wpAnyH_ready (rs := [6, 8]) (by kernel_rfl) (by simp) ?_
                    refine AllReadyH.cons (o := { dst := some 53, op := Op.call { callee := Callee.builtin Builtin.append, args := #[Operand.tmp 48, Operand.tmp 52], argTypes := #[31, 31] }, type := 31, pos := "ref.go:67", after := #[{ on := 1, ground := Ground.data }, { on := 5, ground := Ground.data }], guard := none }) rfl (fun K hK => ?_) ?_
                    · (first | (refine step_pushes (by rfl) _ _ (by rfl) (by rfl) (by rfl) (by rfl) HO5.out.1 (HSPS.out _ HB5.out.1) HB5.out.1.size (by have := HM64.out; simp; omega) ?_; intro v6 V6 ho6 hb6 hg6; obtain ⟨p6, n6, c6, rfl⟩ := ho6.sps.sl; have hbt := HB5.out.1.trans hb6; rw [List.nil_append] at ho6; have H6 := hide (And.intro ho6 (And.intro hbt hg6)); clear ho6 hb6 hg6) | (refine step_pushes (by rfl) _ _ (by rfl) (by rfl) (by rfl) (by rfl) HO5.out.2.1 (HSPS.out _ HB5.out.2.1) HB5.out.2.1.size (by have := HM64.out; simp; omega) ?_; intro v6 V6 ho6 hb6 hg6; obtain ⟨p6, n6, c6, rfl⟩ := ho6.sps.sl; have hbt := HB5.out.2.1.trans hb6; rw [List.nil_append] at ho6; have HS6 : Hid (SpAt V6 (w5.heap.size + 1) 0 ⟨t, i, q, s, en, nn⟩) := hide (fun a b hb => hg6.cell (HSA.out.1 a b hb) (by simp [Value.ownBlock])); have H6 := hide (And.intro ho6 (And.intro hbt hg6)); clear ho6 hb6 hg6) | (refine step_pushes (by rfl) _ _ (by rfl) (by rfl) (by rfl) (by rfl) HO5.out.2.2 (HSPS.out _ HB5.out.2.2) HB5.out.2.2.size (by have := HM64.out; simp; omega) ?_; intro v6 V6 ho6 hb6 hg6; obtain ⟨p6, n6, c6, rfl⟩ := ho6.sps.sl; have hbt := HB5.out.2.2.trans hb6; rw [List.nil_append] at ho6; have HS6 : Hid (SpAt V6 w5.heap.size 0 ⟨t, i, q, s, en, nn⟩) := hide (fun a b hb => hg6.cell (HSA.out.2 a b hb) (by simp [Value.ownBlock])); have H6 := hide (And.intro ho6 (And.intro hbt hg6)); clear ho6 hb6 hg6) | (refine step_pushes (by rfl) _ _ (by rfl) (by rfl) (by rfl) (by rfl) (show OwnS w5.heap.size (V6.alloc _) (.slice p6 n6 c6) M from World.ownsRow.alloc H6.out.1 _) (sps_one (spAt_new V6 ⟨t, i, q, s, en, nn⟩)) (by have := H6.out.2.1.size; simp; omega) (by have := HM64.out; simp; omega) ?_; intro v9 V9 ho9 hb9 hg9; obtain ⟨p9, n9, c9, rfl⟩ := ho9.sps.sl; have hbt := (H6.out.2.1.alloc H6.out.2.1.size _).trans hb9; have g1 := (G5.out _ hbt).1; have g2 := (G5.out _ hbt).2; have H9 := hide (And.intro ho9 hbt); clear ho9 hb9 hg9) | (refine step_pushes (by rfl) _ _ (by rfl) (by rfl) (by rfl) (by rfl) H6.out.1 (sps_one HS6.out) H6.out.2.1.size (by have := HM64.out; simp; omega) ?_; intro v9 V9 ho9 hb9 hg9; obtain ⟨p9, n9, c9, rfl⟩ := ho9.sps.sl; have hbt := H6.out.2.1.trans hb9; have g1 := (G5.out _ hbt).1; have g2 := (G5.out _ hbt).2; have H9 := hide (And.intro ho9 hbt); clear ho9 hb9 hg9))
                      refine hK.out _ _ ?_ (fun hHeld => ?_)
                      · (try dsimp only)
                        first | go_keep | exact KEEP.out.1 _ hbt | exact KEEP.out.2 _ _ hbt
                      clear hK K
                      try simp only [Act.put, List.setIfInBounds_toArray, List.set_cons_zero, List.set_cons_succ]
                      refine wpAnyH_ready (rs := [8]) (by kernel_rfl) (by simp) ?_
                      refine AllReadyH.cons (o := { dst := some 55, op := Op.buildSlice 31 1 #[(0, Operand.tmp 54)], type := 31, pos := "ref.go:67", after := #[{ on := 7, ground := Ground.data }], guard := none }) rfl (fun K hK => ?_) ?_
                      · go_simp
                        first
                          | refine hK.out _ _ ?_ (fun hHeld => ?_)
                          | (go_wp2_with fail; refine hK.out _ _ ?_ (fun hHeld => ?_))
                        · (try dsimp only)
                          first | go_keep | exact KEEP.out.1 _ hbt | exact KEEP.out.2 _ _ hbt
                        clear hK K
                        try simp only [Act.put, List.setIfInBounds_toArray, List.set_cons_zero, List.set_cons_succ]
                        refine wpAnyH_ready (rs := [9]) (by kernel_rfl) (by simp) ?_
                        refine AllReadyH.cons (o := { dst := some 56, op := Op.call { callee := Callee.builtin Builtin.append, args := #[Operand.tmp 53, Operand.tmp 55], argTypes := #[31, 31] }, type := 31, pos := "ref.go:67", after := #[{ on := 6, ground := Ground.data }, { on := 8, ground := Ground.data }, { on := 6, ground := Ground.chain }], guard := none }) rfl (fun K hK => ?_) ?_
                        · (first | (refine step_pushes (by rfl) _ _ (by rfl) (by rfl) (by rfl) (by rfl) HO5.out.1 (HSPS.out _ HB5.out.1) HB5.out.1.size (by have := HM64.out; simp; omega) ?_; intro v6 V6 ho6 hb6 hg6; obtain ⟨p6, n6, c6, rfl⟩ := ho6.sps.sl; have hbt := HB5.out.1.trans hb6; rw [List.nil_append] at ho6; have H6 := hide (And.intro ho6 (And.intro hbt hg6)); clear ho6 hb6 hg6) | (refine step_pushes (by rfl) _ _ (by rfl) (by rfl) (by rfl) (by rfl) HO5.out.2.1 (HSPS.out _ HB5.out.2.1) HB5.out.2.1.size (by have := HM64.out; simp; omega) ?_; intro v6 V6 ho6 hb6 hg6; obtain ⟨p6, n6, c6, rfl⟩ := ho6.sps.sl; have hbt := HB5.out.2.1.trans hb6; rw [List.nil_append] at ho6; have HS6 : Hid (SpAt V6 (w5.heap.size + 1) 0 ⟨t, i, q, s, en, nn⟩) := hide (fun a b hb => hg6.cell (HSA.out.1 a b hb) (by simp [Value.ownBlock])); have H6 := hide (And.intro ho6 (And.intro hbt hg6)); clear ho6 hb6 hg6) | (refine step_pushes (by rfl) _ _ (by rfl) (by rfl) (by rfl) (by rfl) HO5.out.2.2 (HSPS.out _ HB5.out.2.2) HB5.out.2.2.size (by have := HM64.out; simp; omega) ?_; intro v6 V6 ho6 hb6 hg6; obtain ⟨p6, n6, c6, rfl⟩ := ho6.sps.sl; have hbt := HB5.out.2.2.trans hb6; rw [List.nil_append] at ho6; have HS6 : Hid (SpAt V6 w5.heap.size 0 ⟨t, i, q, s, en, nn⟩) := hide (fun a b hb => hg6.cell (HSA.out.2 a b hb) (by simp [Value.ownBlock])); have H6 := hide (And.intro ho6 (And.intro hbt hg6)); clear ho6 hb6 hg6) | (refine step_pushes (by rfl) _ _ (by rfl) (by rfl) (by rfl) (by rfl) (show OwnS w5.heap.size (V6.alloc _) (.slice p6 n6 c6) M from World.ownsRow.alloc H6.out.1 _) (sps_one (spAt_new V6 ⟨t, i, q, s, en, nn⟩)) (by have := H6.out.2.1.size; simp; omega) (by have := HM64.out; simp; omega) ?_; intro v9 V9 ho9 hb9 hg9; obtain ⟨p9, n9, c9, rfl⟩ := ho9.sps.sl; have hbt := (H6.out.2.1.alloc H6.out.2.1.size _).trans hb9; have g1 := (G5.out _ hbt).1; have g2 := (G5.out _ hbt).2; have H9 := hide (And.intro ho9 hbt); clear ho9 hb9 hg9) | (refine step_pushes (by rfl) _ _ (by rfl) (by rfl) (by rfl) (by rfl) H6.out.1 (sps_one HS6.out) H6.out.2.1.size (by have := HM64.out; simp; omega) ?_; intro v9 V9 ho9 hb9 hg9; obtain ⟨p9, n9, c9, rfl⟩ := ho9.sps.sl; have hbt := H6.out.2.1.trans hb9; have g1 := (G5.out _ hbt).1; have g2 := (G5.out _ hbt).2; have H9 := hide (And.intro ho9 hbt); clear ho9 hb9 hg9))
                          refine hK.out _ _ ?_ (fun hHeld => ?_)
                          · (try dsimp only)
                            first | go_keep | exact KEEP.out.1 _ hbt | exact KEEP.out.2 _ _ hbt
                          clear hK K
                          try simp only [Act.put, List.setIfInBounds_toArray, List.set_cons_zero, List.set_cons_succ]
                          refine wpAnyH_take (i := 10) (oi := { dst := some 57, op := Op.nilCheck (Operand.tmp 47), type := 0, pos := "ref.go:67", after := #[{ on := 0, ground := Ground.data }, { on := 0, ground := Ground.phase }, { on := 1, ground := Ground.phase }, { on := 2, ground := Ground.phase }, { on := 3, ground := Ground.phase }, { on := 4, ground := Ground.phase }, { on := 5, ground := Ground.phase }, { on := 6, ground := Ground.phase }, { on := 7, ground := Ground.phase }, { on := 8, ground := Ground.phase }, { on := 9, ground := Ground.phase }], guard := none }) (v := ?_) rfl (by kernel_rfl) (by kernel_rfl) (by kernel_rfl) (fun _ _ _ h => h) (Or.inl ⟨by rfl, ?_⟩) (by assumption) ?_
                          rotate_left
                          · intro w hSw
                            (try dsimp only at hSw)
                            go_simp
                            try with_reducible rfl
                          try simp only [Act.put, List.setIfInBounds_toArray, List.set_cons_zero, List.set_cons_succ]
                          refine wpAnyH_take (i := 11) (oi := { dst := some 58, op := Op.fieldAddr 103 (Operand.tmp 57) 1, type := 0, pos := "ref.go:67", after := #[{ on := 10, ground := Ground.data }, { on := 0, ground := Ground.phase }, { on := 1, ground := Ground.phase }, { on := 2, ground := Ground.phase }, { on := 3, ground := Ground.phase }, { on := 4, ground := Ground.phase }, { on := 5, ground := Ground.phase }, { on := 6, ground := Ground.phase }, { on := 7, ground := Ground.phase }, { on := 8, ground := Ground.phase }, { on := 9, ground := Ground.phase }], guard := none }) (v := ?_) rfl (by kernel_rfl) (by kernel_rfl) (by kernel_rfl) (fun _ _ _ h => h) (Or.inl ⟨by rfl, ?_⟩) (by assumption) ?_
                          rotate_left
                          · intro w hSw
                            (try dsimp only at hSw)
                            go_simp
                            try with_reducible rfl
                          try simp only [Act.put, List.setIfInBounds_toArray, List.set_cons_zero, List.set_cons_succ]
                          refine wpAnyH_ready (rs := [12]) (by kernel_rfl) (by simp) ?_
                          refine AllReadyH.cons (o := { dst := none, op := Op.store 31 (Operand.tmp 58) (Operand.tmp 56), type := 0, pos := "ref.go:67", after := #[{ on := 11, ground := Ground.data }, { on := 9, ground := Ground.data }, { on := 9, ground := Ground.chain }, { on := 0, ground := Ground.phase }, { on := 1, ground := Ground.phase }, { on := 2, ground := Ground.phase }, { on := 3, ground := Ground.phase }, { on := 4, ground := Ground.phase }, { on := 5, ground := Ground.phase }, { on := 6, ground := Ground.phase }, { on := 7, ground := Ground.phase }, { on := 8, ground := Ground.phase }, { on := 9, ground := Ground.phase }], guard := none }) rfl (fun K hK => ?_) ?_
                          · go_simp
                            first
                              | refine hK.out _ _ ?_ (fun hHeld => ?_)
                              | (go_wp2_with fail; refine hK.out _ _ ?_ (fun hHeld => ?_))
                            · (try dsimp only)
                              first | go_keep | exact KEEP.out.1 _ hbt | exact KEEP.out.2 _ _ hbt
                            clear hK K
                            try simp only [Act.put, List.setIfInBounds_toArray, List.set_cons_zero, List.set_cons_succ]
                            refine wpAnyH_done (by kernel_rfl) ?_ _
                            have hc9 : CnAt (V9.setCell ⟨g, 1, none⟩ (.slice p9 n9 c9)) gc ⟨na, ns, no, ny, nf⟩ := (H5.out.2.1.below H9.out.2).grown (grown_set _ _ _ _) (fun e => HZ.out.2.2.2.2.1 (by injection e with e; exact e.symm))
                            have hr9 : RfX (fun k => T k ∨ k = gc ∨ k = w.heap.size) (V9.setCell ⟨g, 1, none⟩ (.slice p9 n9 c9)) g tr (M ++ [⟨t, i, q, s, en, nn⟩]) := H5.out.1.put H9.out.2 H9.out.1 (fun k hk => by
                              have h1 : g < w5.heap.size := lt_of_cell H5.out.1.c0
                              have h2 : gc < w5.heap.size := lt_of_cell H5.out.2.1.c0
                              have h3 := HZ.out.2.2.2.2.2
                              rcases hk with hk | hk | hk
                              · have := HTT.out.2 k hk
                                omega
                              · omega
                              · omega)
                            have hg9 : Chg Z (V9.setCell ⟨g, 1, none⟩ (.slice p9 n9 c9)) (fun k => k = g ∨ k = gc) := (H5.out.2.2.belowed H9.out.2).set _ (.inl (.inl rfl))
                            obtain ⟨j0, j1, j2, j3, j4, jf⟩ := hc9
                            have jf0 := jf 0 (by omega)
                            dsimp only at j0
                            have HF9 := hide (And.intro hr9 (And.intro (CnAt.mk j0 j1 j2 j3 j4 jf : CnAt (V9.setCell ⟨g, 1, none⟩ (.slice p9 n9 c9)) gc ⟨na, ns, no, ny, nf⟩) hg9))
                            clear jf hr9 hg9
                            go_wp2
                            go_roundw
                            case rel =>
                              refine ⟨j + 1, by omega, by go_num, hide ?_⟩
                              rw [HNX.out, HRES.out]
                              exact ⟨HF9.out.1.grown (grown_set _ _ _ _) (.inr (.inl rfl)) HZ.out.2.2.2.2.1, HF9.out.2.1.s0, HF9.out.2.2.set _ (.inl (.inr rfl))⟩
                            case measure => simp [intOf]; omega
                          exact AllReadyH.nil
                        exact AllReadyH.nil
                      exact AllReadyH.nil
                    refine AllReadyH.cons (o := { dst := some 55, op := Op.buildSlice 31 1 #[(0, Operand.tmp 54)], type := 31, pos := "ref.go:67", after := #[{ on := 7, ground := Ground.data }], guard := none }) rfl (fun K hK => ?_) ?_
                    · go_simp
                      first
                        | refine hK.out _ _ ?_ (fun hHeld => ?_)
                        | (go_wp2_with fail; refine hK.out _ _ ?_ (fun hHeld => ?_))
                      · (try dsimp only)
                        first | go_keep | exact KEEP.out.1 _ hbt | exact KEEP.out.2 _ _ hbt
                      clear hK K
                      try simp only [Act.put, List.setIfInBounds_toArray, List.set_cons_zero, List.set_cons_succ]
                      refine wpAnyH_ready (rs := [6]) (by kernel_rfl) (by simp) ?_
                      refine AllReadyH.cons (o := { dst := some 53, op := Op.call { callee := Callee.builtin Builtin.append, args := #[Operand.tmp 48, Operand.tmp 52], argTypes := #[31, 31] }, type := 31, pos := "ref.go:67", after := #[{ on := 1, ground := Ground.data }, { on := 5, ground := Ground.data }], guard := none }) rfl (fun K hK => ?_) ?_
                      · (first | (refine step_pushes (by rfl) _ _ (by rfl) (by rfl) (by rfl) (by rfl) HO5.out.1 (HSPS.out _ HB5.out.1) HB5.out.1.size (by have := HM64.out; simp; omega) ?_; intro v6 V6 ho6 hb6 hg6; obtain ⟨p6, n6, c6, rfl⟩ := ho6.sps.sl; have hbt := HB5.out.1.trans hb6; rw [List.nil_append] at ho6; have H6 := hide (And.intro ho6 (And.intro hbt hg6)); clear ho6 hb6 hg6) | (refine step_pushes (by rfl) _ _ (by rfl) (by rfl) (by rfl) (by rfl) HO5.out.2.1 (HSPS.out _ HB5.out.2.1) HB5.out.2.1.size (by have := HM64.out; simp; omega) ?_; intro v6 V6 ho6 hb6 hg6; obtain ⟨p6, n6, c6, rfl⟩ := ho6.sps.sl; have hbt := HB5.out.2.1.trans hb6; rw [List.nil_append] at ho6; have HS6 : Hid (SpAt V6 (w5.heap.size + 1) 0 ⟨t, i, q, s, en, nn⟩) := hide (fun a b hb => hg6.cell (HSA.out.1 a b hb) (by simp [Value.ownBlock])); have H6 := hide (And.intro ho6 (And.intro hbt hg6)); clear ho6 hb6 hg6) | (refine step_pushes (by rfl) _ _ (by rfl) (by rfl) (by rfl) (by rfl) HO5.out.2.2 (HSPS.out _ HB5.out.2.2) HB5.out.2.2.size (by have := HM64.out; simp; omega) ?_; intro v6 V6 ho6 hb6 hg6; obtain ⟨p6, n6, c6, rfl⟩ := ho6.sps.sl; have hbt := HB5.out.2.2.trans hb6; rw [List.nil_append] at ho6; have HS6 : Hid (SpAt V6 w5.heap.size 0 ⟨t, i, q, s, en, nn⟩) := hide (fun a b hb => hg6.cell (HSA.out.2 a b hb) (by simp [Value.ownBlock])); have H6 := hide (And.intro ho6 (And.intro hbt hg6)); clear ho6 hb6 hg6) | (refine step_pushes (by rfl) _ _ (by rfl) (by rfl) (by rfl) (by rfl) (show OwnS w5.heap.size (V6.alloc _) (.slice p6 n6 c6) M from World.ownsRow.alloc H6.out.1 _) (sps_one (spAt_new V6 ⟨t, i, q, s, en, nn⟩)) (by have := H6.out.2.1.size; simp; omega) (by have := HM64.out; simp; omega) ?_; intro v9 V9 ho9 hb9 hg9; obtain ⟨p9, n9, c9, rfl⟩ := ho9.sps.sl; have hbt := (H6.out.2.1.alloc H6.out.2.1.size _).trans hb9; have g1 := (G5.out _ hbt).1; have g2 := (G5.out _ hbt).2; have H9 := hide (And.intro ho9 hbt); clear ho9 hb9 hg9) | (refine step_pushes (by rfl) _ _ (by rfl) (by rfl) (by rfl) (by rfl) H6.out.1 (sps_one HS6.out) H6.out.2.1.size (by have := HM64.out; simp; omega) ?_; intro v9 V9 ho9 hb9 hg9; obtain ⟨p9, n9, c9, rfl⟩ := ho9.sps.sl; have hbt := H6.out.2.1.trans hb9; have g1 := (G5.out _ hbt).1; have g2 := (G5.out _ hbt).2; have H9 := hide (And.intro ho9 hbt); clear ho9 hb9 hg9))
                        refine hK.out _ _ ?_ (fun hHeld => ?_)
                        · (try dsimp only)
                          first | go_keep | exact KEEP.out.1 _ hbt | exact KEEP.out.2 _ _ hbt
                        clear hK K
                        try simp only [Act.put, List.setIfInBounds_toArray, List.set_cons_zero, List.set_cons_succ]
                        refine wpAnyH_ready (rs := [9]) (by kernel_rfl) (by simp) ?_
                        refine AllReadyH.cons (o := { dst := some 56, op := Op.call { callee := Callee.builtin Builtin.append, args := #[Operand.tmp 53, Operand.tmp 55], argTypes := #[31, 31] }, type := 31, pos := "ref.go:67", after := #[{ on := 6, ground := Ground.data }, { on := 8, ground := Ground.data }, { on := 6, ground := Ground.chain }], guard := none }) rfl (fun K hK => ?_) ?_
                        · (first | (refine step_pushes (by rfl) _ _ (by rfl) (by rfl) (by rfl) (by rfl) HO5.out.1 (HSPS.out _ HB5.out.1) HB5.out.1.size (by have := HM64.out; simp; omega) ?_; intro v6 V6 ho6 hb6 hg6; obtain ⟨p6, n6, c6, rfl⟩ := ho6.sps.sl; have hbt := HB5.out.1.trans hb6; rw [List.nil_append] at ho6; have H6 := hide (And.intro ho6 (And.intro hbt hg6)); clear ho6 hb6 hg6) | (refine step_pushes (by rfl) _ _ (by rfl) (by rfl) (by rfl) (by rfl) HO5.out.2.1 (HSPS.out _ HB5.out.2.1) HB5.out.2.1.size (by have := HM64.out; simp; omega) ?_; intro v6 V6 ho6 hb6 hg6; obtain ⟨p6, n6, c6, rfl⟩ := ho6.sps.sl; have hbt := HB5.out.2.1.trans hb6; rw [List.nil_append] at ho6; have HS6 : Hid (SpAt V6 (w5.heap.size + 1) 0 ⟨t, i, q, s, en, nn⟩) := hide (fun a b hb => hg6.cell (HSA.out.1 a b hb) (by simp [Value.ownBlock])); have H6 := hide (And.intro ho6 (And.intro hbt hg6)); clear ho6 hb6 hg6) | (refine step_pushes (by rfl) _ _ (by rfl) (by rfl) (by rfl) (by rfl) HO5.out.2.2 (HSPS.out _ HB5.out.2.2) HB5.out.2.2.size (by have := HM64.out; simp; omega) ?_; intro v6 V6 ho6 hb6 hg6; obtain ⟨p6, n6, c6, rfl⟩ := ho6.sps.sl; have hbt := HB5.out.2.2.trans hb6; rw [List.nil_append] at ho6; have HS6 : Hid (SpAt V6 w5.heap.size 0 ⟨t, i, q, s, en, nn⟩) := hide (fun a b hb => hg6.cell (HSA.out.2 a b hb) (by simp [Value.ownBlock])); have H6 := hide (And.intro ho6 (And.intro hbt hg6)); clear ho6 hb6 hg6) | (refine step_pushes (by rfl) _ _ (by rfl) (by rfl) (by rfl) (by rfl) (show OwnS w5.heap.size (V6.alloc _) (.slice p6 n6 c6) M from World.ownsRow.alloc H6.out.1 _) (sps_one (spAt_new V6 ⟨t, i, q, s, en, nn⟩)) (by have := H6.out.2.1.size; simp; omega) (by have := HM64.out; simp; omega) ?_; intro v9 V9 ho9 hb9 hg9; obtain ⟨p9, n9, c9, rfl⟩ := ho9.sps.sl; have hbt := (H6.out.2.1.alloc H6.out.2.1.size _).trans hb9; have g1 := (G5.out _ hbt).1; have g2 := (G5.out _ hbt).2; have H9 := hide (And.intro ho9 hbt); clear ho9 hb9 hg9) | (refine step_pushes (by rfl) _ _ (by rfl) (by rfl) (by rfl) (by rfl) H6.out.1 (sps_one HS6.out) H6.out.2.1.size (by have := HM64.out; simp; omega) ?_; intro v9 V9 ho9 hb9 hg9; obtain ⟨p9, n9, c9, rfl⟩ := ho9.sps.sl; have hbt := H6.out.2.1.trans hb9; have g1 := (G5.out _ hbt).1; have g2 := (G5.out _ hbt).2; have H9 := hide (And.intro ho9 hbt); clear ho9 hb9 hg9))
                          refine hK.out _ _ ?_ (fun hHeld => ?_)
                          · (try dsimp only)
                            first | go_keep | exact KEEP.out.1 _ hbt | exact KEEP.out.2 _ _ hbt
                          clear hK K
                          try simp only [Act.put, List.setIfInBounds_toArray, List.set_cons_zero, List.set_cons_succ]
                          refine wpAnyH_take (i := 10) (oi := { dst := some 57, op := Op.nilCheck (Operand.tmp 47), type := 0, pos := "ref.go:67", after := #[{ on := 0, ground := Ground.data }, { on := 0, ground := Ground.phase }, { on := 1, ground := Ground.phase }, { on := 2, ground := Ground.phase }, { on := 3, ground := Ground.phase }, { on := 4, ground := Ground.phase }, { on := 5, ground := Ground.phase }, { on := 6, ground := Ground.phase }, { on := 7, ground := Ground.phase }, { on := 8, ground := Ground.phase }, { on := 9, ground := Ground.phase }], guard := none }) (v := ?_) rfl (by kernel_rfl) (by kernel_rfl) (by kernel_rfl) (fun _ _ _ h => h) (Or.inl ⟨by rfl, ?_⟩) (by assumption) ?_
                          rotate_left
                          · intro w hSw
                            (try dsimp only at hSw)
                            go_simp
                            try with_reducible rfl
                          try simp only [Act.put, List.setIfInBounds_toArray, List.set_cons_zero, List.set_cons_succ]
                          refine wpAnyH_take (i := 11) (oi := { dst := some 58, op := Op.fieldAddr 103 (Operand.tmp 57) 1, type := 0, pos := "ref.go:67", after := #[{ on := 10, ground := Ground.data }, { on := 0, ground := Ground.phase }, { on := 1, ground := Ground.phase }, { on := 2, ground := Ground.phase }, { on := 3, ground := Ground.phase }, { on := 4, ground := Ground.phase }, { on := 5, ground := Ground.phase }, { on := 6, ground := Ground.phase }, { on := 7, ground := Ground.phase }, { on := 8, ground := Ground.phase }, { on := 9, ground := Ground.phase }], guard := none }) (v := ?_) rfl (by kernel_rfl) (by kernel_rfl) (by kernel_rfl) (fun _ _ _ h => h) (Or.inl ⟨by rfl, ?_⟩) (by assumption) ?_
                          rotate_left
                          · intro w hSw
                            (try dsimp only at hSw)
                            go_simp
                            try with_reducible rfl
                          try simp only [Act.put, List.setIfInBounds_toArray, List.set_cons_zero, List.set_cons_succ]
                          refine wpAnyH_ready (rs := [12]) (by kernel_rfl) (by simp) ?_
                          refine AllReadyH.cons (o := { dst := none, op := Op.store 31 (Operand.tmp 58) (Operand.tmp 56), type := 0, pos := "ref.go:67", after := #[{ on := 11, ground := Ground.data }, { on := 9, ground := Ground.data }, { on := 9, ground := Ground.chain }, { on := 0, ground := Ground.phase }, { on := 1, ground := Ground.phase }, { on := 2, ground := Ground.phase }, { on := 3, ground := Ground.phase }, { on := 4, ground := Ground.phase }, { on := 5, ground := Ground.phase }, { on := 6, ground := Ground.phase }, { on := 7, ground := Ground.phase }, { on := 8, ground := Ground.phase }, { on := 9, ground := Ground.phase }], guard := none }) rfl (fun K hK => ?_) ?_
                          · go_simp
                            first
                              | refine hK.out _ _ ?_ (fun hHeld => ?_)
                              | (go_wp2_with fail; refine hK.out _ _ ?_ (fun hHeld => ?_))
                            · (try dsimp only)
                              first | go_keep | exact KEEP.out.1 _ hbt | exact KEEP.out.2 _ _ hbt
                            clear hK K
                            try simp only [Act.put, List.setIfInBounds_toArray, List.set_cons_zero, List.set_cons_succ]
                            refine wpAnyH_done (by kernel_rfl) ?_ _
                            have hc9 : CnAt (V9.setCell ⟨g, 1, none⟩ (.slice p9 n9 c9)) gc ⟨na, ns, no, ny, nf⟩ := (H5.out.2.1.below H9.out.2).grown (grown_set _ _ _ _) (fun e => HZ.out.2.2.2.2.1 (by injection e with e; exact e.symm))
                            have hr9 : RfX (fun k => T k ∨ k = gc ∨ k = w.heap.size) (V9.setCell ⟨g, 1, none⟩ (.slice p9 n9 c9)) g tr (M ++ [⟨t, i, q, s, en, nn⟩]) := H5.out.1.put H9.out.2 H9.out.1 (fun k hk => by
                              have h1 : g < w5.heap.size := lt_of_cell H5.out.1.c0
                              have h2 : gc < w5.heap.size := lt_of_cell H5.out.2.1.c0
                              have h3 := HZ.out.2.2.2.2.2
                              rcases hk with hk | hk | hk
                              · have := HTT.out.2 k hk
                                omega
                              · omega
                              · omega)
                            have hg9 : Chg Z (V9.setCell ⟨g, 1, none⟩ (.slice p9 n9 c9)) (fun k => k = g ∨ k = gc) := (H5.out.2.2.belowed H9.out.2).set _ (.inl (.inl rfl))
                            obtain ⟨j0, j1, j2, j3, j4, jf⟩ := hc9
                            have jf0 := jf 0 (by omega)
                            dsimp only at j0
                            have HF9 := hide (And.intro hr9 (And.intro (CnAt.mk j0 j1 j2 j3 j4 jf : CnAt (V9.setCell ⟨g, 1, none⟩ (.slice p9 n9 c9)) gc ⟨na, ns, no, ny, nf⟩) hg9))
                            clear jf hr9 hg9
                            go_wp2
                            go_roundw
                            case rel =>
                              refine ⟨j + 1, by omega, by go_num, hide ?_⟩
                              rw [HNX.out, HRES.out]
                              exact ⟨HF9.out.1.grown (grown_set _ _ _ _) (.inr (.inl rfl)) HZ.out.2.2.2.2.1, HF9.out.2.1.s0, HF9.out.2.2.set _ (.inl (.inr rfl))⟩
                            case measure => simp [intOf]; omega
                          exact AllReadyH.nil
                        exact AllReadyH.nil
                      exact AllReadyH.nil
                    exact AllReadyH.nil
                  refine AllReadyH.cons (o := { dst := some 55, op := Op.buildSlice 31 1 #[(0, Operand.tmp 54)], type := 31, pos := "ref.go:67", after := #[{ on := 7, ground := Ground.data }], guard := none }) rfl (fun K hK => ?_) ?_
                  · go_simp
                    first
                      | refine hK.out _ _ ?_ (fun hHeld => ?_)
                      | (go_wp2_with fail; refine hK.out _ _ ?_ (fun hHeld => ?_))
                    · (try dsimp only)
                      first | go_keep | exact KEEP.out.1 _ hbt | exact KEEP.out.2 _ _ hbt
                    clear hK K
                    try simp only [Act.put, List.setIfInBounds_toArray, List.set_cons_zero, List.set_cons_succ]
                    refine wpAnyH_ready (rs := [1]) (by kernel_rfl) (by simp) ?_
                    refine AllReadyH.cons (o := { dst := some 48, op := Op.buildSlice 31 0 #[], type := 31, pos := "ref.go:67", after := #[], guard := none }) rfl (fun K hK => ?_) ?_
                    · go_simp
                      first
                        | refine hK.out _ _ ?_ (fun hHeld => ?_)
                        | (go_wp2_with fail; refine hK.out _ _ ?_ (fun hHeld => ?_))
                      · (try dsimp only)
                        first | go_keep | exact KEEP.out.1 _ hbt | exact KEEP.out.2 _ _ hbt
                      clear hK K
                      try simp only [Act.put, List.setIfInBounds_toArray, List.set_cons_zero, List.set_cons_succ]
                      refine wpAnyH_ready (rs := [6]) (by kernel_rfl) (by simp) ?_
                      refine AllReadyH.cons (o := { dst := some 53, op := Op.call { callee := Callee.builtin Builtin.append, args := #[Operand.tmp 48, Operand.tmp 52], argTypes := #[31, 31] }, type := 31, pos := "ref.go:67", after := #[{ on := 1, ground := Ground.data }, { on := 5, ground := Ground.data }], guard := none }) rfl (fun K hK => ?_) ?_
                      · (first | (refine step_pushes (by rfl) _ _ (by rfl) (by rfl) (by rfl) (by rfl) HO5.out.1 (HSPS.out _ HB5.out.1) HB5.out.1.size (by have := HM64.out; simp; omega) ?_; intro v6 V6 ho6 hb6 hg6; obtain ⟨p6, n6, c6, rfl⟩ := ho6.sps.sl; have hbt := HB5.out.1.trans hb6; rw [List.nil_append] at ho6; have H6 := hide (And.intro ho6 (And.intro hbt hg6)); clear ho6 hb6 hg6) | (refine step_pushes (by rfl) _ _ (by rfl) (by rfl) (by rfl) (by rfl) HO5.out.2.1 (HSPS.out _ HB5.out.2.1) HB5.out.2.1.size (by have := HM64.out; simp; omega) ?_; intro v6 V6 ho6 hb6 hg6; obtain ⟨p6, n6, c6, rfl⟩ := ho6.sps.sl; have hbt := HB5.out.2.1.trans hb6; rw [List.nil_append] at ho6; have HS6 : Hid (SpAt V6 (w5.heap.size + 1) 0 ⟨t, i, q, s, en, nn⟩) := hide (fun a b hb => hg6.cell (HSA.out.1 a b hb) (by simp [Value.ownBlock])); have H6 := hide (And.intro ho6 (And.intro hbt hg6)); clear ho6 hb6 hg6) | (refine step_pushes (by rfl) _ _ (by rfl) (by rfl) (by rfl) (by rfl) HO5.out.2.2 (HSPS.out _ HB5.out.2.2) HB5.out.2.2.size (by have := HM64.out; simp; omega) ?_; intro v6 V6 ho6 hb6 hg6; obtain ⟨p6, n6, c6, rfl⟩ := ho6.sps.sl; have hbt := HB5.out.2.2.trans hb6; rw [List.nil_append] at ho6; have HS6 : Hid (SpAt V6 w5.heap.size 0 ⟨t, i, q, s, en, nn⟩) := hide (fun a b hb => hg6.cell (HSA.out.2 a b hb) (by simp [Value.ownBlock])); have H6 := hide (And.intro ho6 (And.intro hbt hg6)); clear ho6 hb6 hg6) | (refine step_pushes (by rfl) _ _ (by rfl) (by rfl) (by rfl) (by rfl) (show OwnS w5.heap.size (V6.alloc _) (.slice p6 n6 c6) M from World.ownsRow.alloc H6.out.1 _) (sps_one (spAt_new V6 ⟨t, i, q, s, en, nn⟩)) (by have := H6.out.2.1.size; simp; omega) (by have := HM64.out; simp; omega) ?_; intro v9 V9 ho9 hb9 hg9; obtain ⟨p9, n9, c9, rfl⟩ := ho9.sps.sl; have hbt := (H6.out.2.1.alloc H6.out.2.1.size _).trans hb9; have g1 := (G5.out _ hbt).1; have g2 := (G5.out _ hbt).2; have H9 := hide (And.intro ho9 hbt); clear ho9 hb9 hg9) | (refine step_pushes (by rfl) _ _ (by rfl) (by rfl) (by rfl) (by rfl) H6.out.1 (sps_one HS6.out) H6.out.2.1.size (by have := HM64.out; simp; omega) ?_; intro v9 V9 ho9 hb9 hg9; obtain ⟨p9, n9, c9, rfl⟩ := ho9.sps.sl; have hbt := H6.out.2.1.trans hb9; have g1 := (G5.out _ hbt).1; have g2 := (G5.out _ hbt).2; have H9 := hide (And.intro ho9 hbt); clear ho9 hb9 hg9))
                        refine hK.out _ _ ?_ (fun hHeld => ?_)
                        · (try dsimp only)
                          first | go_keep | exact KEEP.out.1 _ hbt | exact KEEP.out.2 _ _ hbt
                        clear hK K
                        try simp only [Act.put, List.setIfInBounds_toArray, List.set_cons_zero, List.set_cons_succ]
                        refine wpAnyH_ready (rs := [9]) (by kernel_rfl) (by simp) ?_
                        refine AllReadyH.cons (o := { dst := some 56, op := Op.call { callee := Callee.builtin Builtin.append, args := #[Operand.tmp 53, Operand.tmp 55], argTypes := #[31, 31] }, type := 31, pos := "ref.go:67", after := #[{ on := 6, ground := Ground.data }, { on := 8, ground := Ground.data }, { on := 6, ground := Ground.chain }], guard := none }) rfl (fun K hK => ?_) ?_
                        · (first | (refine step_pushes (by rfl) _ _ (by rfl) (by rfl) (by rfl) (by rfl) HO5.out.1 (HSPS.out _ HB5.out.1) HB5.out.1.size (by have := HM64.out; simp; omega) ?_; intro v6 V6 ho6 hb6 hg6; obtain ⟨p6, n6, c6, rfl⟩ := ho6.sps.sl; have hbt := HB5.out.1.trans hb6; rw [List.nil_append] at ho6; have H6 := hide (And.intro ho6 (And.intro hbt hg6)); clear ho6 hb6 hg6) | (refine step_pushes (by rfl) _ _ (by rfl) (by rfl) (by rfl) (by rfl) HO5.out.2.1 (HSPS.out _ HB5.out.2.1) HB5.out.2.1.size (by have := HM64.out; simp; omega) ?_; intro v6 V6 ho6 hb6 hg6; obtain ⟨p6, n6, c6, rfl⟩ := ho6.sps.sl; have hbt := HB5.out.2.1.trans hb6; rw [List.nil_append] at ho6; have HS6 : Hid (SpAt V6 (w5.heap.size + 1) 0 ⟨t, i, q, s, en, nn⟩) := hide (fun a b hb => hg6.cell (HSA.out.1 a b hb) (by simp [Value.ownBlock])); have H6 := hide (And.intro ho6 (And.intro hbt hg6)); clear ho6 hb6 hg6) | (refine step_pushes (by rfl) _ _ (by rfl) (by rfl) (by rfl) (by rfl) HO5.out.2.2 (HSPS.out _ HB5.out.2.2) HB5.out.2.2.size (by have := HM64.out; simp; omega) ?_; intro v6 V6 ho6 hb6 hg6; obtain ⟨p6, n6, c6, rfl⟩ := ho6.sps.sl; have hbt := HB5.out.2.2.trans hb6; rw [List.nil_append] at ho6; have HS6 : Hid (SpAt V6 w5.heap.size 0 ⟨t, i, q, s, en, nn⟩) := hide (fun a b hb => hg6.cell (HSA.out.2 a b hb) (by simp [Value.ownBlock])); have H6 := hide (And.intro ho6 (And.intro hbt hg6)); clear ho6 hb6 hg6) | (refine step_pushes (by rfl) _ _ (by rfl) (by rfl) (by rfl) (by rfl) (show OwnS w5.heap.size (V6.alloc _) (.slice p6 n6 c6) M from World.ownsRow.alloc H6.out.1 _) (sps_one (spAt_new V6 ⟨t, i, q, s, en, nn⟩)) (by have := H6.out.2.1.size; simp; omega) (by have := HM64.out; simp; omega) ?_; intro v9 V9 ho9 hb9 hg9; obtain ⟨p9, n9, c9, rfl⟩ := ho9.sps.sl; have hbt := (H6.out.2.1.alloc H6.out.2.1.size _).trans hb9; have g1 := (G5.out _ hbt).1; have g2 := (G5.out _ hbt).2; have H9 := hide (And.intro ho9 hbt); clear ho9 hb9 hg9) | (refine step_pushes (by rfl) _ _ (by rfl) (by rfl) (by rfl) (by rfl) H6.out.1 (sps_one HS6.out) H6.out.2.1.size (by have := HM64.out; simp; omega) ?_; intro v9 V9 ho9 hb9 hg9; obtain ⟨p9, n9, c9, rfl⟩ := ho9.sps.sl; have hbt := H6.out.2.1.trans hb9; have g1 := (G5.out _ hbt).1; have g2 := (G5.out _ hbt).2; have H9 := hide (And.intro ho9 hbt); clear ho9 hb9 hg9))
                          refine hK.out _ _ ?_ (fun hHeld => ?_)
                          · (try dsimp only)
                            first | go_keep | exact KEEP.out.1 _ hbt | exact KEEP.out.2 _ _ hbt
                          clear hK K
                          try simp only [Act.put, List.setIfInBounds_toArray, List.set_cons_zero, List.set_cons_succ]
                          refine wpAnyH_take (i := 10) (oi := { dst := some 57, op := Op.nilCheck (Operand.tmp 47), type := 0, pos := "ref.go:67", after := #[{ on := 0, ground := Ground.data }, { on := 0, ground := Ground.phase }, { on := 1, ground := Ground.phase }, { on := 2, ground := Ground.phase }, { on := 3, ground := Ground.phase }, { on := 4, ground := Ground.phase }, { on := 5, ground := Ground.phase }, { on := 6, ground := Ground.phase }, { on := 7, ground := Ground.phase }, { on := 8, ground := Ground.phase }, { on := 9, ground := Ground.phase }], guard := none }) (v := ?_) rfl (by kernel_rfl) (by kernel_rfl) (by kernel_rfl) (fun _ _ _ h => h) (Or.inl ⟨by rfl, ?_⟩) (by assumption) ?_
                          rotate_left
                          · intro w hSw
                            (try dsimp only at hSw)
                            go_simp
                            try with_reducible rfl
                          try simp only [Act.put, List.setIfInBounds_toArray, List.set_cons_zero, List.set_cons_succ]
                          refine wpAnyH_take (i := 11) (oi := { dst := some 58, op := Op.fieldAddr 103 (Operand.tmp 57) 1, type := 0, pos := "ref.go:67", after := #[{ on := 10, ground := Ground.data }, { on := 0, ground := Ground.phase }, { on := 1, ground := Ground.phase }, { on := 2, ground := Ground.phase }, { on := 3, ground := Ground.phase }, { on := 4, ground := Ground.phase }, { on := 5, ground := Ground.phase }, { on := 6, ground := Ground.phase }, { on := 7, ground := Ground.phase }, { on := 8, ground := Ground.phase }, { on := 9, ground := Ground.phase }], guard := none }) (v := ?_) rfl (by kernel_rfl) (by kernel_rfl) (by kernel_rfl) (fun _ _ _ h => h) (Or.inl ⟨by rfl, ?_⟩) (by assumption) ?_
                          rotate_left
                          · intro w hSw
                            (try dsimp only at hSw)
                            go_simp
                            try with_reducible rfl
                          try simp only [Act.put, List.setIfInBounds_toArray, List.set_cons_zero, List.set_cons_succ]
                          refine wpAnyH_ready (rs := [12]) (by kernel_rfl) (by simp) ?_
                          refine AllReadyH.cons (o := { dst := none, op := Op.store 31 (Operand.tmp 58) (Operand.tmp 56), type := 0, pos := "ref.go:67", after := #[{ on := 11, ground := Ground.data }, { on := 9, ground := Ground.data }, { on := 9, ground := Ground.chain }, { on := 0, ground := Ground.phase }, { on := 1, ground := Ground.phase }, { on := 2, ground := Ground.phase }, { on := 3, ground := Ground.phase }, { on := 4, ground := Ground.phase }, { on := 5, ground := Ground.phase }, { on := 6, ground := Ground.phase }, { on := 7, ground := Ground.phase }, { on := 8, ground := Ground.phase }, { on := 9, ground := Ground.phase }], guard := none }) rfl (fun K hK => ?_) ?_
                          · go_simp
                            first
                              | refine hK.out _ _ ?_ (fun hHeld => ?_)
                              | (go_wp2_with fail; refine hK.out _ _ ?_ (fun hHeld => ?_))
                            · (try dsimp only)
                              first | go_keep | exact KEEP.out.1 _ hbt | exact KEEP.out.2 _ _ hbt
                            clear hK K
                            try simp only [Act.put, List.setIfInBounds_toArray, List.set_cons_zero, List.set_cons_succ]
                            refine wpAnyH_done (by kernel_rfl) ?_ _
                            have hc9 : CnAt (V9.setCell ⟨g, 1, none⟩ (.slice p9 n9 c9)) gc ⟨na, ns, no, ny, nf⟩ := (H5.out.2.1.below H9.out.2).grown (grown_set _ _ _ _) (fun e => HZ.out.2.2.2.2.1 (by injection e with e; exact e.symm))
                            have hr9 : RfX (fun k => T k ∨ k = gc ∨ k = w.heap.size) (V9.setCell ⟨g, 1, none⟩ (.slice p9 n9 c9)) g tr (M ++ [⟨t, i, q, s, en, nn⟩]) := H5.out.1.put H9.out.2 H9.out.1 (fun k hk => by
                              have h1 : g < w5.heap.size := lt_of_cell H5.out.1.c0
                              have h2 : gc < w5.heap.size := lt_of_cell H5.out.2.1.c0
                              have h3 := HZ.out.2.2.2.2.2
                              rcases hk with hk | hk | hk
                              · have := HTT.out.2 k hk
                                omega
                              · omega
                              · omega)
                            have hg9 : Chg Z (V9.setCell ⟨g, 1, none⟩ (.slice p9 n9 c9)) (fun k => k = g ∨ k = gc) := (H5.out.2.2.belowed H9.out.2).set _ (.inl (.inl rfl))
                            obtain ⟨j0, j1, j2, j3, j4, jf⟩ := hc9
                            have jf0 := jf 0 (by omega)
                            dsimp only at j0
                            have HF9 := hide (And.intro hr9 (And.intro (CnAt.mk j0 j1 j2 j3 j4 jf : CnAt (V9.setCell ⟨g, 1, none⟩ (.slice p9 n9 c9)) gc ⟨na, ns, no, ny, nf⟩) hg9))
                            clear jf hr9 hg9
                            go_wp2
                            go_roundw
                            case rel =>
                              refine ⟨j + 1, by omega, by go_num, hide ?_⟩
                              rw [HNX.out, HRES.out]
                              exact ⟨HF9.out.1.grown (grown_set _ _ _ _) (.inr (.inl rfl)) HZ.out.2.2.2.2.1, HF9.out.2.1.s0, HF9.out.2.2.set _ (.inl (.inr rfl))⟩
                            case measure => simp [intOf]; omega
                          exact AllReadyH.nil
                        exact AllReadyH.nil
                      exact AllReadyH.nil
                    exact AllReadyH.nil
                  exact AllReadyH.nil
                refine AllReadyH.cons (o := { dst := some 55, op := Op.buildSlice 31 1 #[(0, Operand.tmp 54)], type := 31, pos := "ref.go:67", after := #[{ on := 7, ground := Ground.data }], guard := none }) rfl (fun K hK => ?_) ?_
                · go_simp
                  first
                    | refine hK.out _ _ ?_ (fun hHeld => ?_)
                    | (go_wp2_with fail; refine hK.out _ _ ?_ (fun hHeld => ?_))
                  · (try dsimp only)
                    first | go_keep | exact KEEP.out.1 _ hbt | exact KEEP.out.2 _ _ hbt
                  clear hK K
                  try simp only [Act.put, List.setIfInBounds_toArray, List.set_cons_zero, List.set_cons_succ]
                  refine wpAnyH_ready (rs := [1, 5]) (by kernel_rfl) (by simp) ?_
                  refine AllReadyH.cons (o := { dst := some 48, op := Op.buildSlice 31 0 #[], type := 31, pos := "ref.go:67", after := #[], guard := none }) rfl (fun K hK => ?_) ?_
                  · go_simp
                    first
                      | refine hK.out _ _ ?_ (fun hHeld => ?_)
                      | (go_wp2_with fail; refine hK.out _ _ ?_ (fun hHeld => ?_))
                    · (try dsimp only)
                      first | go_keep | exact KEEP.out.1 _ hbt | exact KEEP.out.2 _ _ hbt
                    clear hK K
                    try simp only [Act.put, List.setIfInBounds_toArray, List.set_cons_zero, List.set_cons_succ]
                    refine wpAnyH_ready (rs := [5]) (by kernel_rfl) (by simp) ?_
                    refine AllReadyH.cons (o := { dst := some 52, op := Op.load 31 (Operand.tmp 51), type := 31, pos := "ref.go:67", after := #[{ on := 4, ground := Ground.data }], guard := none }) rfl (fun K hK => ?_) ?_
                    · go_simp
                      first
                        | refine hK.out _ _ ?_ (fun hHeld => ?_)
                        | (go_wp2_with fail; refine hK.out _ _ ?_ (fun hHeld => ?_))
                      · (try dsimp only)
                        first | go_keep | exact KEEP.out.1 _ hbt | exact KEEP.out.2 _ _ hbt
                      clear hK K
                      try simp only [Act.put, List.setIfInBounds_toArray, List.set_cons_zero, List.set_cons_succ]
                      refine wpAnyH_ready (rs := [6]) (by kernel_rfl) (by simp) ?_
                      refine AllReadyH.cons (o := { dst := some 53, op := Op.call { callee := Callee.builtin Builtin.append, args := #[Operand.tmp 48, Operand.tmp 52], argTypes := #[31, 31] }, type := 31, pos := "ref.go:67", after := #[{ on := 1, ground := Ground.data }, { on := 5, ground := Ground.data }], guard := none }) rfl (fun K hK => ?_) ?_
                      · (first | (refine step_pushes (by rfl) _ _ (by rfl) (by rfl) (by rfl) (by rfl) HO5.out.1 (HSPS.out _ HB5.out.1) HB5.out.1.size (by have := HM64.out; simp; omega) ?_; intro v6 V6 ho6 hb6 hg6; obtain ⟨p6, n6, c6, rfl⟩ := ho6.sps.sl; have hbt := HB5.out.1.trans hb6; rw [List.nil_append] at ho6; have H6 := hide (And.intro ho6 (And.intro hbt hg6)); clear ho6 hb6 hg6) | (refine step_pushes (by rfl) _ _ (by rfl) (by rfl) (by rfl) (by rfl) HO5.out.2.1 (HSPS.out _ HB5.out.2.1) HB5.out.2.1.size (by have := HM64.out; simp; omega) ?_; intro v6 V6 ho6 hb6 hg6; obtain ⟨p6, n6, c6, rfl⟩ := ho6.sps.sl; have hbt := HB5.out.2.1.trans hb6; rw [List.nil_append] at ho6; have HS6 : Hid (SpAt V6 (w5.heap.size + 1) 0 ⟨t, i, q, s, en, nn⟩) := hide (fun a b hb => hg6.cell (HSA.out.1 a b hb) (by simp [Value.ownBlock])); have H6 := hide (And.intro ho6 (And.intro hbt hg6)); clear ho6 hb6 hg6) | (refine step_pushes (by rfl) _ _ (by rfl) (by rfl) (by rfl) (by rfl) HO5.out.2.2 (HSPS.out _ HB5.out.2.2) HB5.out.2.2.size (by have := HM64.out; simp; omega) ?_; intro v6 V6 ho6 hb6 hg6; obtain ⟨p6, n6, c6, rfl⟩ := ho6.sps.sl; have hbt := HB5.out.2.2.trans hb6; rw [List.nil_append] at ho6; have HS6 : Hid (SpAt V6 w5.heap.size 0 ⟨t, i, q, s, en, nn⟩) := hide (fun a b hb => hg6.cell (HSA.out.2 a b hb) (by simp [Value.ownBlock])); have H6 := hide (And.intro ho6 (And.intro hbt hg6)); clear ho6 hb6 hg6) | (refine step_pushes (by rfl) _ _ (by rfl) (by rfl) (by rfl) (by rfl) (show OwnS w5.heap.size (V6.alloc _) (.slice p6 n6 c6) M from World.ownsRow.alloc H6.out.1 _) (sps_one (spAt_new V6 ⟨t, i, q, s, en, nn⟩)) (by have := H6.out.2.1.size; simp; omega) (by have := HM64.out; simp; omega) ?_; intro v9 V9 ho9 hb9 hg9; obtain ⟨p9, n9, c9, rfl⟩ := ho9.sps.sl; have hbt := (H6.out.2.1.alloc H6.out.2.1.size _).trans hb9; have g1 := (G5.out _ hbt).1; have g2 := (G5.out _ hbt).2; have H9 := hide (And.intro ho9 hbt); clear ho9 hb9 hg9) | (refine step_pushes (by rfl) _ _ (by rfl) (by rfl) (by rfl) (by rfl) H6.out.1 (sps_one HS6.out) H6.out.2.1.size (by have := HM64.out; simp; omega) ?_; intro v9 V9 ho9 hb9 hg9; obtain ⟨p9, n9, c9, rfl⟩ := ho9.sps.sl; have hbt := H6.out.2.1.trans hb9; have g1 := (G5.out _ hbt).1; have g2 := (G5.out _ hbt).2; have H9 := hide (And.intro ho9 hbt); clear ho9 hb9 hg9))
                        refine hK.out _ _ ?_ (fun hHeld => ?_)
                        · (try dsimp only)
                          first | go_keep | exact KEEP.out.1 _ hbt | exact KEEP.out.2 _ _ hbt
                        clear hK K
                        try simp only [Act.put, List.setIfInBounds_toArray, List.set_cons_zero, List.set_cons_succ]
                        refine wpAnyH_ready (rs := [9]) (by kernel_rfl) (by simp) ?_
                        refine AllReadyH.cons (o := { dst := some 56, op := Op.call { callee := Callee.builtin Builtin.append, args := #[Operand.tmp 53, Operand.tmp 55], argTypes := #[31, 31] }, type := 31, pos := "ref.go:67", after := #[{ on := 6, ground := Ground.data }, { on := 8, ground := Ground.data }, { on := 6, ground := Ground.chain }], guard := none }) rfl (fun K hK => ?_) ?_
                        · (first | (refine step_pushes (by rfl) _ _ (by rfl) (by rfl) (by rfl) (by rfl) HO5.out.1 (HSPS.out _ HB5.out.1) HB5.out.1.size (by have := HM64.out; simp; omega) ?_; intro v6 V6 ho6 hb6 hg6; obtain ⟨p6, n6, c6, rfl⟩ := ho6.sps.sl; have hbt := HB5.out.1.trans hb6; rw [List.nil_append] at ho6; have H6 := hide (And.intro ho6 (And.intro hbt hg6)); clear ho6 hb6 hg6) | (refine step_pushes (by rfl) _ _ (by rfl) (by rfl) (by rfl) (by rfl) HO5.out.2.1 (HSPS.out _ HB5.out.2.1) HB5.out.2.1.size (by have := HM64.out; simp; omega) ?_; intro v6 V6 ho6 hb6 hg6; obtain ⟨p6, n6, c6, rfl⟩ := ho6.sps.sl; have hbt := HB5.out.2.1.trans hb6; rw [List.nil_append] at ho6; have HS6 : Hid (SpAt V6 (w5.heap.size + 1) 0 ⟨t, i, q, s, en, nn⟩) := hide (fun a b hb => hg6.cell (HSA.out.1 a b hb) (by simp [Value.ownBlock])); have H6 := hide (And.intro ho6 (And.intro hbt hg6)); clear ho6 hb6 hg6) | (refine step_pushes (by rfl) _ _ (by rfl) (by rfl) (by rfl) (by rfl) HO5.out.2.2 (HSPS.out _ HB5.out.2.2) HB5.out.2.2.size (by have := HM64.out; simp; omega) ?_; intro v6 V6 ho6 hb6 hg6; obtain ⟨p6, n6, c6, rfl⟩ := ho6.sps.sl; have hbt := HB5.out.2.2.trans hb6; rw [List.nil_append] at ho6; have HS6 : Hid (SpAt V6 w5.heap.size 0 ⟨t, i, q, s, en, nn⟩) := hide (fun a b hb => hg6.cell (HSA.out.2 a b hb) (by simp [Value.ownBlock])); have H6 := hide (And.intro ho6 (And.intro hbt hg6)); clear ho6 hb6 hg6) | (refine step_pushes (by rfl) _ _ (by rfl) (by rfl) (by rfl) (by rfl) (show OwnS w5.heap.size (V6.alloc _) (.slice p6 n6 c6) M from World.ownsRow.alloc H6.out.1 _) (sps_one (spAt_new V6 ⟨t, i, q, s, en, nn⟩)) (by have := H6.out.2.1.size; simp; omega) (by have := HM64.out; simp; omega) ?_; intro v9 V9 ho9 hb9 hg9; obtain ⟨p9, n9, c9, rfl⟩ := ho9.sps.sl; have hbt := (H6.out.2.1.alloc H6.out.2.1.size _).trans hb9; have g1 := (G5.out _ hbt).1; have g2 := (G5.out _ hbt).2; have H9 := hide (And.intro ho9 hbt); clear ho9 hb9 hg9) | (refine step_pushes (by rfl) _ _ (by rfl) (by rfl) (by rfl) (by rfl) H6.out.1 (sps_one HS6.out) H6.out.2.1.size (by have := HM64.out; simp; omega) ?_; intro v9 V9 ho9 hb9 hg9; obtain ⟨p9, n9, c9, rfl⟩ := ho9.sps.sl; have hbt := H6.out.2.1.trans hb9; have g1 := (G5.out _ hbt).1; have g2 := (G5.out _ hbt).2; have H9 := hide (And.intro ho9 hbt); clear ho9 hb9 hg9))
                          refine hK.out _ _ ?_ (fun hHeld => ?_)
                          · (try dsimp only)
                            first | go_keep | exact KEEP.out.1 _ hbt | exact KEEP.out.2 _ _ hbt
                          clear hK K
                          try simp only [Act.put, List.setIfInBounds_toArray, List.set_cons_zero, List.set_cons_succ]
                          refine wpAnyH_take (i := 10) (oi := { dst := some 57, op := Op.nilCheck (Operand.tmp 47), type := 0, pos := "ref.go:67", after := #[{ on := 0, ground := Ground.data }, { on := 0, ground := Ground.phase }, { on := 1, ground := Ground.phase }, { on := 2, ground := Ground.phase }, { on := 3, ground := Ground.phase }, { on := 4, ground := Ground.phase }, { on := 5, ground := Ground.phase }, { on := 6, ground := Ground.phase }, { on := 7, ground := Ground.phase }, { on := 8, ground := Ground.phase }, { on := 9, ground := Ground.phase }], guard := none }) (v := ?_) rfl (by kernel_rfl) (by kernel_rfl) (by kernel_rfl) (fun _ _ _ h => h) (Or.inl ⟨by rfl, ?_⟩) (by assumption) ?_
                          rotate_left
                          · intro w hSw
                            (try dsimp only at hSw)
                            go_simp
                            try with_reducible rfl
                          try simp only [Act.put, List.setIfInBounds_toArray, List.set_cons_zero, List.set_cons_succ]
                          refine wpAnyH_take (i := 11) (oi := { dst := some 58, op := Op.fieldAddr 103 (Operand.tmp 57) 1, type := 0, pos := "ref.go:67", after := #[{ on := 10, ground := Ground.data }, { on := 0, ground := Ground.phase }, { on := 1, ground := Ground.phase }, { on := 2, ground := Ground.phase }, { on := 3, ground := Ground.phase }, { on := 4, ground := Ground.phase }, { on := 5, ground := Ground.phase }, { on := 6, ground := Ground.phase }, { on := 7, ground := Ground.phase }, { on := 8, ground := Ground.phase }, { on := 9, ground := Ground.phase }], guard := none }) (v := ?_) rfl (by kernel_rfl) (by kernel_rfl) (by kernel_rfl) (fun _ _ _ h => h) (Or.inl ⟨by rfl, ?_⟩) (by assumption) ?_
                          rotate_left
                          · intro w hSw
                            (try dsimp only at hSw)
                            go_simp
                            try with_reducible rfl
                          try simp only [Act.put, List.setIfInBounds_toArray, List.set_cons_zero, List.set_cons_succ]
                          refine wpAnyH_ready (rs := [12]) (by kernel_rfl) (by simp) ?_
                          refine AllReadyH.cons (o := { dst := none, op := Op.store 31 (Operand.tmp 58) (Operand.tmp 56), type := 0, pos := "ref.go:67", after := #[{ on := 11, ground := Ground.data }, { on := 9, ground := Ground.data }, { on := 9, ground := Ground.chain }, { on := 0, ground := Ground.phase }, { on := 1, ground := Ground.phase }, { on := 2, ground := Ground.phase }, { on := 3, ground := Ground.phase }, { on := 4, ground := Ground.phase }, { on := 5, ground := Ground.phase }, { on := 6, ground := Ground.phase }, { on := 7, ground := Ground.phase }, { on := 8, ground := Ground.phase }, { on := 9, ground := Ground.phase }], guard := none }) rfl (fun K hK => ?_) ?_
                          · go_simp
                            first
                              | refine hK.out _ _ ?_ (fun hHeld => ?_)
                              | (go_wp2_with fail; refine hK.out _ _ ?_ (fun hHeld => ?_))
                            · (try dsimp only)
                              first | go_keep | exact KEEP.out.1 _ hbt | exact KEEP.out.2 _ _ hbt
                            clear hK K
                            try simp only [Act.put, List.setIfInBounds_toArray, List.set_cons_zero, List.set_cons_succ]
                            refine wpAnyH_done (by kernel_rfl) ?_ _
                            have hc9 : CnAt (V9.setCell ⟨g, 1, none⟩ (.slice p9 n9 c9)) gc ⟨na, ns, no, ny, nf⟩ := (H5.out.2.1.below H9.out.2).grown (grown_set _ _ _ _) (fun e => HZ.out.2.2.2.2.1 (by injection e with e; exact e.symm))
                            have hr9 : RfX (fun k => T k ∨ k = gc ∨ k = w.heap.size) (V9.setCell ⟨g, 1, none⟩ (.slice p9 n9 c9)) g tr (M ++ [⟨t, i, q, s, en, nn⟩]) := H5.out.1.put H9.out.2 H9.out.1 (fun k hk => by
                              have h1 : g < w5.heap.size := lt_of_cell H5.out.1.c0
                              have h2 : gc < w5.heap.size := lt_of_cell H5.out.2.1.c0
                              have h3 := HZ.out.2.2.2.2.2
                              rcases hk with hk | hk | hk
                              · have := HTT.out.2 k hk
                                omega
                              · omega
                              · omega)
                            have hg9 : Chg Z (V9.setCell ⟨g, 1, none⟩ (.slice p9 n9 c9)) (fun k => k = g ∨ k = gc) := (H5.out.2.2.belowed H9.out.2).set _ (.inl (.inl rfl))
                            obtain ⟨j0, j1, j2, j3, j4, jf⟩ := hc9
                            have jf0 := jf 0 (by omega)
                            dsimp only at j0
                            have HF9 := hide (And.intro hr9 (And.intro (CnAt.mk j0 j1 j2 j3 j4 jf : CnAt (V9.setCell ⟨g, 1, none⟩ (.slice p9 n9 c9)) gc ⟨na, ns, no, ny, nf⟩) hg9))
                            clear jf hr9 hg9
                            go_wp2
                            go_roundw
                            case rel =>
                              refine ⟨j + 1, by omega, by go_num, hide ?_⟩
                              rw [HNX.out, HRES.out]
                              exact ⟨HF9.out.1.grown (grown_set _ _ _ _) (.inr (.inl rfl)) HZ.out.2.2.2.2.1, HF9.out.2.1.s0, HF9.out.2.2.set _ (.inl (.inr rfl))⟩
                            case measure => simp [intOf]; omega
                          exact AllReadyH.nil
                        exact AllReadyH.nil
                      exact AllReadyH.nil
                    exact AllReadyH.nil
                  refine AllReadyH.cons (o := { dst := some 52, op := Op.load 31 (Operand.tmp 51), type := 31, pos := "ref.go:67", after := #[{ on := 4, ground := Ground.data }], guard := none }) rfl (fun K hK => ?_) ?_
                  · go_simp
                    first
                      | refine hK.out _ _ ?_ (fun hHeld => ?_)
                      | (go_wp2_with fail; refine hK.out _ _ ?_ (fun hHeld => ?_))
                    · (try dsimp only)
                      first | go_keep | exact KEEP.out.1 _ hbt | exact KEEP.out.2 _ _ hbt
                    clear hK K
                    try simp only [Act.put, List.setIfInBounds_toArray, List.set_cons_zero, List.set_cons_succ]
                    refine wpAnyH_ready (rs := [1]) (by kernel_rfl) (by simp) ?_
                    refine AllReadyH.cons (o := { dst := some 48, op := Op.buildSlice 31 0 #[], type := 31, pos := "ref.go:67", after := #[], guard := none }) rfl (fun K hK => ?_) ?_
                    · go_simp
                      first
                        | refine hK.out _ _ ?_ (fun hHeld => ?_)
                        | (go_wp2_with fail; refine hK.out _ _ ?_ (fun hHeld => ?_))
                      · (try dsimp only)
                        first | go_keep | exact KEEP.out.1 _ hbt | exact KEEP.out.2 _ _ hbt
                      clear hK K
                      try simp only [Act.put, List.setIfInBounds_toArray, List.set_cons_zero, List.set_cons_succ]
                      refine wpAnyH_ready (rs := [6]) (by kernel_rfl) (by simp) ?_
                      refine AllReadyH.cons (o := { dst := some 53, op := Op.call { callee := Callee.builtin Builtin.append, args := #[Operand.tmp 48, Operand.tmp 52], argTypes := #[31, 31] }, type := 31, pos := "ref.go:67", after := #[{ on := 1, ground := Ground.data }, { on := 5, ground := Ground.data }], guard := none }) rfl (fun K hK => ?_) ?_
                      · (first | (refine step_pushes (by rfl) _ _ (by rfl) (by rfl) (by rfl) (by rfl) HO5.out.1 (HSPS.out _ HB5.out.1) HB5.out.1.size (by have := HM64.out; simp; omega) ?_; intro v6 V6 ho6 hb6 hg6; obtain ⟨p6, n6, c6, rfl⟩ := ho6.sps.sl; have hbt := HB5.out.1.trans hb6; rw [List.nil_append] at ho6; have H6 := hide (And.intro ho6 (And.intro hbt hg6)); clear ho6 hb6 hg6) | (refine step_pushes (by rfl) _ _ (by rfl) (by rfl) (by rfl) (by rfl) HO5.out.2.1 (HSPS.out _ HB5.out.2.1) HB5.out.2.1.size (by have := HM64.out; simp; omega) ?_; intro v6 V6 ho6 hb6 hg6; obtain ⟨p6, n6, c6, rfl⟩ := ho6.sps.sl; have hbt := HB5.out.2.1.trans hb6; rw [List.nil_append] at ho6; have HS6 : Hid (SpAt V6 (w5.heap.size + 1) 0 ⟨t, i, q, s, en, nn⟩) := hide (fun a b hb => hg6.cell (HSA.out.1 a b hb) (by simp [Value.ownBlock])); have H6 := hide (And.intro ho6 (And.intro hbt hg6)); clear ho6 hb6 hg6) | (refine step_pushes (by rfl) _ _ (by rfl) (by rfl) (by rfl) (by rfl) HO5.out.2.2 (HSPS.out _ HB5.out.2.2) HB5.out.2.2.size (by have := HM64.out; simp; omega) ?_; intro v6 V6 ho6 hb6 hg6; obtain ⟨p6, n6, c6, rfl⟩ := ho6.sps.sl; have hbt := HB5.out.2.2.trans hb6; rw [List.nil_append] at ho6; have HS6 : Hid (SpAt V6 w5.heap.size 0 ⟨t, i, q, s, en, nn⟩) := hide (fun a b hb => hg6.cell (HSA.out.2 a b hb) (by simp [Value.ownBlock])); have H6 := hide (And.intro ho6 (And.intro hbt hg6)); clear ho6 hb6 hg6) | (refine step_pushes (by rfl) _ _ (by rfl) (by rfl) (by rfl) (by rfl) (show OwnS w5.heap.size (V6.alloc _) (.slice p6 n6 c6) M from World.ownsRow.alloc H6.out.1 _) (sps_one (spAt_new V6 ⟨t, i, q, s, en, nn⟩)) (by have := H6.out.2.1.size; simp; omega) (by have := HM64.out; simp; omega) ?_; intro v9 V9 ho9 hb9 hg9; obtain ⟨p9, n9, c9, rfl⟩ := ho9.sps.sl; have hbt := (H6.out.2.1.alloc H6.out.2.1.size _).trans hb9; have g1 := (G5.out _ hbt).1; have g2 := (G5.out _ hbt).2; have H9 := hide (And.intro ho9 hbt); clear ho9 hb9 hg9) | (refine step_pushes (by rfl) _ _ (by rfl) (by rfl) (by rfl) (by rfl) H6.out.1 (sps_one HS6.out) H6.out.2.1.size (by have := HM64.out; simp; omega) ?_; intro v9 V9 ho9 hb9 hg9; obtain ⟨p9, n9, c9, rfl⟩ := ho9.sps.sl; have hbt := H6.out.2.1.trans hb9; have g1 := (G5.out _ hbt).1; have g2 := (G5.out _ hbt).2; have H9 := hide (And.intro ho9 hbt); clear ho9 hb9 hg9))
                        refine hK.out _ _ ?_ (fun hHeld => ?_)
                        · (try dsimp only)
                          first | go_keep | exact KEEP.out.1 _ hbt | exact KEEP.out.2 _ _ hbt
                        clear hK K
                        try simp only [Act.put, List.setIfInBounds_toArray, List.set_cons_zero, List.set_cons_succ]
                        refine wpAnyH_ready (rs := [9]) (by kernel_rfl) (by simp) ?_
                        refine AllReadyH.cons (o := { dst := some 56, op := Op.call { callee := Callee.builtin Builtin.append, args := #[Operand.tmp 53, Operand.tmp 55], argTypes := #[31, 31] }, type := 31, pos := "ref.go:67", after := #[{ on := 6, ground := Ground.data }, { on := 8, ground := Ground.data }, { on := 6, ground := Ground.chain }], guard := none }) rfl (fun K hK => ?_) ?_
                        · (first | (refine step_pushes (by rfl) _ _ (by rfl) (by rfl) (by rfl) (by rfl) HO5.out.1 (HSPS.out _ HB5.out.1) HB5.out.1.size (by have := HM64.out; simp; omega) ?_; intro v6 V6 ho6 hb6 hg6; obtain ⟨p6, n6, c6, rfl⟩ := ho6.sps.sl; have hbt := HB5.out.1.trans hb6; rw [List.nil_append] at ho6; have H6 := hide (And.intro ho6 (And.intro hbt hg6)); clear ho6 hb6 hg6) | (refine step_pushes (by rfl) _ _ (by rfl) (by rfl) (by rfl) (by rfl) HO5.out.2.1 (HSPS.out _ HB5.out.2.1) HB5.out.2.1.size (by have := HM64.out; simp; omega) ?_; intro v6 V6 ho6 hb6 hg6; obtain ⟨p6, n6, c6, rfl⟩ := ho6.sps.sl; have hbt := HB5.out.2.1.trans hb6; rw [List.nil_append] at ho6; have HS6 : Hid (SpAt V6 (w5.heap.size + 1) 0 ⟨t, i, q, s, en, nn⟩) := hide (fun a b hb => hg6.cell (HSA.out.1 a b hb) (by simp [Value.ownBlock])); have H6 := hide (And.intro ho6 (And.intro hbt hg6)); clear ho6 hb6 hg6) | (refine step_pushes (by rfl) _ _ (by rfl) (by rfl) (by rfl) (by rfl) HO5.out.2.2 (HSPS.out _ HB5.out.2.2) HB5.out.2.2.size (by have := HM64.out; simp; omega) ?_; intro v6 V6 ho6 hb6 hg6; obtain ⟨p6, n6, c6, rfl⟩ := ho6.sps.sl; have hbt := HB5.out.2.2.trans hb6; rw [List.nil_append] at ho6; have HS6 : Hid (SpAt V6 w5.heap.size 0 ⟨t, i, q, s, en, nn⟩) := hide (fun a b hb => hg6.cell (HSA.out.2 a b hb) (by simp [Value.ownBlock])); have H6 := hide (And.intro ho6 (And.intro hbt hg6)); clear ho6 hb6 hg6) | (refine step_pushes (by rfl) _ _ (by rfl) (by rfl) (by rfl) (by rfl) (show OwnS w5.heap.size (V6.alloc _) (.slice p6 n6 c6) M from World.ownsRow.alloc H6.out.1 _) (sps_one (spAt_new V6 ⟨t, i, q, s, en, nn⟩)) (by have := H6.out.2.1.size; simp; omega) (by have := HM64.out; simp; omega) ?_; intro v9 V9 ho9 hb9 hg9; obtain ⟨p9, n9, c9, rfl⟩ := ho9.sps.sl; have hbt := (H6.out.2.1.alloc H6.out.2.1.size _).trans hb9; have g1 := (G5.out _ hbt).1; have g2 := (G5.out _ hbt).2; have H9 := hide (And.intro ho9 hbt); clear ho9 hb9 hg9) | (refine step_pushes (by rfl) _ _ (by rfl) (by rfl) (by rfl) (by rfl) H6.out.1 (sps_one HS6.out) H6.out.2.1.size (by have := HM64.out; simp; omega) ?_; intro v9 V9 ho9 hb9 hg9; obtain ⟨p9, n9, c9, rfl⟩ := ho9.sps.sl; have hbt := H6.out.2.1.trans hb9; have g1 := (G5.out _ hbt).1; have g2 := (G5.out _ hbt).2; have H9 := hide (And.intro ho9 hbt); clear ho9 hb9 hg9))
                          refine hK.out _ _ ?_ (fun hHeld => ?_)
                          · (try dsimp only)
                            first | go_keep | exact KEEP.out.1 _ hbt | exact KEEP.out.2 _ _ hbt
                          clear hK K
                          try simp only [Act.put, List.setIfInBounds_toArray, List.set_cons_zero, List.set_cons_succ]
                          refine wpAnyH_take (i := 10) (oi := { dst := some 57, op := Op.nilCheck (Operand.tmp 47), type := 0, pos := "ref.go:67", after := #[{ on := 0, ground := Ground.data }, { on := 0, ground := Ground.phase }, { on := 1, ground := Ground.phase }, { on := 2, ground := Ground.phase }, { on := 3, ground := Ground.phase }, { on := 4, ground := Ground.phase }, { on := 5, ground := Ground.phase }, { on := 6, ground := Ground.phase }, { on := 7, ground := Ground.phase }, { on := 8, ground := Ground.phase }, { on := 9, ground := Ground.phase }], guard := none }) (v := ?_) rfl (by kernel_rfl) (by kernel_rfl) (by kernel_rfl) (fun _ _ _ h => h) (Or.inl ⟨by rfl, ?_⟩) (by assumption) ?_
                          rotate_left
                          · intro w hSw
                            (try dsimp only at hSw)
                            go_simp
                            try with_reducible rfl
                          try simp only [Act.put, List.setIfInBounds_toArray, List.set_cons_zero, List.set_cons_succ]
                          refine wpAnyH_take (i := 11) (oi := { dst := some 58, op := Op.fieldAddr 103 (Operand.tmp 57) 1, type := 0, pos := "ref.go:67", after := #[{ on := 10, ground := Ground.data }, { on := 0, ground := Ground.phase }, { on := 1, ground := Ground.phase }, { on := 2, ground := Ground.phase }, { on := 3, ground := Ground.phase }, { on := 4, ground := Ground.phase }, { on := 5, ground := Ground.phase }, { on := 6, ground := Ground.phase }, { on := 7, ground := Ground.phase }, { on := 8, ground := Ground.phase }, { on := 9, ground := Ground.phase }], guard := none }) (v := ?_) rfl (by kernel_rfl) (by kernel_rfl) (by kernel_rfl) (fun _ _ _ h => h) (Or.inl ⟨by rfl, ?_⟩) (by assumption) ?_
                          rotate_left
                          · intro w hSw
                            (try dsimp only at hSw)
                            go_simp
                            try with_reducible rfl
                          try simp only [Act.put, List.setIfInBounds_toArray, List.set_cons_zero, List.set_cons_succ]
                          refine wpAnyH_ready (rs := [12]) (by kernel_rfl) (by simp) ?_
                          refine AllReadyH.cons (o := { dst := none, op := Op.store 31 (Operand.tmp 58) (Operand.tmp 56), type := 0, pos := "ref.go:67", after := #[{ on := 11, ground := Ground.data }, { on := 9, ground := Ground.data }, { on := 9, ground := Ground.chain }, { on := 0, ground := Ground.phase }, { on := 1, ground := Ground.phase }, { on := 2, ground := Ground.phase }, { on := 3, ground := Ground.phase }, { on := 4, ground := Ground.phase }, { on := 5, ground := Ground.phase }, { on := 6, ground := Ground.phase }, { on := 7, ground := Ground.phase }, { on := 8, ground := Ground.phase }, { on := 9, ground := Ground.phase }], guard := none }) rfl (fun K hK => ?_) ?_
                          · go_simp
                            first
                              | refine hK.out _ _ ?_ (fun hHeld => ?_)
                              | (go_wp2_with fail; refine hK.out _ _ ?_ (fun hHeld => ?_))
                            · (try dsimp only)
                              first | go_keep | exact KEEP.out.1 _ hbt | exact KEEP.out.2 _ _ hbt
                            clear hK K
                            try simp only [Act.put, List.setIfInBounds_toArray, List.set_cons_zero, List.set_cons_succ]
                            refine wpAnyH_done (by kernel_rfl) ?_ _
                            have hc9 : CnAt (V9.setCell ⟨g, 1, none⟩ (.slice p9 n9 c9)) gc ⟨na, ns, no, ny, nf⟩ := (H5.out.2.1.below H9.out.2).grown (grown_set _ _ _ _) (fun e => HZ.out.2.2.2.2.1 (by injection e with e; exact e.symm))
                            have hr9 : RfX (fun k => T k ∨ k = gc ∨ k = w.heap.size) (V9.setCell ⟨g, 1, none⟩ (.slice p9 n9 c9)) g tr (M ++ [⟨t, i, q, s, en, nn⟩]) := H5.out.1.put H9.out.2 H9.out.1 (fun k hk => by
                              have h1 : g < w5.heap.size := lt_of_cell H5.out.1.c0
                              have h2 : gc < w5.heap.size := lt_of_cell H5.out.2.1.c0
                              have h3 := HZ.out.2.2.2.2.2
                              rcases hk with hk | hk | hk
                              · have := HTT.out.2 k hk
                                omega
                              · omega
                              · omega)
                            have hg9 : Chg Z (V9.setCell ⟨g, 1, none⟩ (.slice p9 n9 c9)) (fun k => k = g ∨ k = gc) := (H5.out.2.2.belowed H9.out.2).set _ (.inl (.inl rfl))
                            obtain ⟨j0, j1, j2, j3, j4, jf⟩ := hc9
                            have jf0 := jf 0 (by omega)
                            dsimp only at j0
                            have HF9 := hide (And.intro hr9 (And.intro (CnAt.mk j0 j1 j2 j3 j4 jf : CnAt (V9.setCell ⟨g, 1, none⟩ (.slice p9 n9 c9)) gc ⟨na, ns, no, ny, nf⟩) hg9))
                            clear jf hr9 hg9
                            go_wp2
                            go_roundw
                            case rel =>
                              refine ⟨j + 1, by omega, by go_num, hide ?_⟩
                              rw [HNX.out, HRES.out]
                              exact ⟨HF9.out.1.grown (grown_set _ _ _ _) (.inr (.inl rfl)) HZ.out.2.2.2.2.1, HF9.out.2.1.s0, HF9.out.2.2.set _ (.inl (.inr rfl))⟩
                            case measure => simp [intOf]; omega
                          exact AllReadyH.nil
                        exact AllReadyH.nil
                      exact AllReadyH.nil
                    exact AllReadyH.nil
                  exact AllReadyH.nil
                exact AllReadyH.nil
              · have hres : putP M ⟨na, ns, no, ny, nf⟩ ⟨t, i, q, s, en, nn⟩ = (M, ⟨na, ns, no, ny + 1, nf⟩) := by
                  unfold putP
                  simp only [hf, if_neg HL64.out, hri, if_true]
                have HRES := hide hres
                rw [hri] at HRG
                clear hres hf hri
                go_wp2_with fail
                refine HRG.out.mono ?_
                rintro e5 w5 ⟨rfl, hb5⟩
                have H5 : Hid (RfX (fun k => T k ∨ k = gc ∨ k = w.heap.size) w5 g tr M ∧ CnAt w5 gc ⟨na, ns, no, ny, nf⟩ ∧ Chg Z w5 (fun k => k = g ∨ k = gc)) := hide ⟨H4.out.1.below hb5, H4.out.2.1.below hb5, H4.out.2.2.belowed hb5⟩
                clear hb5
                obtain ⟨j0, j1, j2, j3, j4, jf⟩ := H5.out.2.1
                have jf3 := jf 3 (by omega)
                dsimp only at j3
                clear jf
                go_wp2
                go_roundw
                case rel =>
                  refine ⟨j + 1, by omega, by go_num, hide ?_⟩
                  rw [HNX.out, HRES.out]
                  exact ⟨H5.out.1.grown (grown_set _ _ _ _) (.inr (.inl rfl)) HZ.out.2.2.2.2.1, H5.out.2.1.s3, H5.out.2.2.set _ (.inl (.inr rfl))⟩
                case measure => simp [intOf]; omega
          · obtain ⟨o, hf⟩ : ∃ o, fnd M i = some o := Option.isSome_iff_exists.1 hb
            rw [hf, Option.getD_some] at hu
            subst hu
            by_cases hux : o = ⟨t, i, q, s, en, nn⟩
            · have hres : putP M ⟨na, ns, no, ny, nf⟩ ⟨t, i, q, s, en, nn⟩ = (M, ⟨na, ns + 1, no, ny, nf⟩) := by
                unfold putP
                simp only [hf, if_pos hux]
              have HRES := hide hres
              rw [decide_eq_true hux] at heq
              subst hux
              clear hres hf hb
              dsimp only at *
              go_wp2
              go_roundw
              case rel =>
                refine ⟨j + 1, by omega, by go_num, hide ?_⟩
                rw [HNX.out, HRES.out]
                exact ⟨H4.out.1.grown (grown_set _ _ _ _) (.inr (.inl rfl)) HZ.out.2.2.2.2.1, H4.out.2.1.s1, H4.out.2.2.set _ (.inl (.inr rfl))⟩
              case measure => simp [intOf]; omega
            · have hres : putP M ⟨na, ns, no, ny, nf⟩ ⟨t, i, q, s, en, nn⟩ = (M, ⟨na, ns, no + 1, ny, nf⟩) := by
                unfold putP
                simp only [hf, if_neg hux]
              have HRES := hide hres
              have hoi := (fnd_mem hf).2
              obtain ⟨t', i', p', s', e', nm'⟩ := o
              dsimp only at *
              subst hoi
              have hbe : t' ≠ t ∨ (t' = t ∧ p' ≠ q) ∨ (t' = t ∧ p' = q ∧ s' ≠ s) ∨ (t' = t ∧ p' = q ∧ s' = s ∧ e' ≠ en) ∨ (t' = t ∧ p' = q ∧ s' = s ∧ e' = en ∧ nm'.toList ≠ nn.toList) := by
                have hb := sp_beq ⟨t', i', p', s', e', nm'⟩ ⟨t, i', q, s, en, nn⟩
                rw [decide_eq_false hux] at hb
                by_cases h1 : t' = t
                · by_cases h2 : p' = q
                  · by_cases h3 : s' = s
                    · by_cases h4 : e' = en
                      · refine .inr (.inr (.inr (.inr ⟨h1, h2, h3, h4, fun h5 => ?_⟩)))
                        simp [h1, h2, h3, h4, h5] at hb
                      · exact .inr (.inr (.inr (.inl ⟨h1, h2, h3, h4⟩)))
                    · exact .inr (.inr (.inl ⟨h1, h2, h3⟩))
                  · exact .inr (.inl ⟨h1, h2⟩)
                · exact .inl h1
              clear hres hf hb hux heq
              rcases hbe with h1 | ⟨rfl, h1⟩ | ⟨rfl, rfl, h1⟩ | ⟨rfl, rfl, rfl, h1⟩ | ⟨rfl, rfl, rfl, rfl, h1⟩
              all_goals
                go_wp2
                go_roundw
                case rel =>
                  refine ⟨j + 1, by omega, by go_num, hide ?_⟩
                  rw [HNX.out, HRES.out]
                  exact ⟨H4.out.1.grown (grown_set _ _ _ _) (.inr (.inl rfl)) HZ.out.2.2.2.2.1, H4.out.2.1.s2, H4.out.2.2.set _ (.inl (.inr rfl))⟩
                case measure => simp [intOf]; omega
        · have hjl : j = l.length := by omega
          subst hjl
          have hf : (putsP L cn0 l).1 = M ∧ (putsP L cn0 l).2 = C := by
            have := HMC.out
            rwa [List.take_length] at this
          have hgl := HZ.out.2.2.2.2.2
          have hrw : wr.heap[w.heap.size]? = some (.cells #[.int .i64 0, .int .i64 0, .int .i64 0, .int .i64 0, .int .i64 0] 40) := (HJ.out.2.2.block w.heap.size (by omega) (by
            have : g < w.heap.size := lt_of_cell c0
            omega)).trans HZ.out.2.2.1
          obtain ⟨k0, k1, k2, k3, k4, kf⟩ := HJ.out.2.1
          have hchg : Chg w wr (fun i => i = g) := (Chg.of_below HZ.out.2.1 (fun i => i = g)).trans HJ.out.2.2 (fun i hi => by
            rcases hi with h1 | h1
            · exact .inl h1
            · exact .inr (by omega))
          have hrf := HJ.out.1
          have cb0 := cell_of_row wr w.heap.size 0 _ 40 (0, 0) hrw
          have cb1 := cell_of_row wr w.heap.size 1 _ 40 (0, 0) hrw
          have cb2 := cell_of_row wr w.heap.size 2 _ 40 (0, 0) hrw
          have cb3 := cell_of_row wr w.heap.size 3 _ 40 (0, 0) hrw
          have cb4 := cell_of_row wr w.heap.size 4 _ 40 (0, 0) hrw
          have cf0 := frozen_of_row wr w.heap.size 0 _ 40 hrw
          have cf1 := frozen_of_row wr w.heap.size 1 _ 40 hrw
          have cf2 := frozen_of_row wr w.heap.size 2 _ 40 hrw
          have cf3 := frozen_of_row wr w.heap.size 3 _ 40 hrw
          have cf4 := frozen_of_row wr w.heap.size 4 _ 40 hrw
          have HRW := hide hrw
          have HFN := hide (And.intro hrf (And.intro hchg hf))
          have hneg : w.heap.size ≠ g := by
            have : g < w.heap.size := lt_of_cell c0
            omega
          have HNEG := hide hneg
          clear hf hrw hrf hchg kf hsn hgl hokj hneg
          go_wp2
          refine bodyPost_ret (v := .tuple #[cnV C, .int .i64 0]) (by
            have q5 := five_set HRW.out (.int .i64 (C.add : Nat)) (.int .i64 (C.same : Nat)) (.int .i64 (C.other : Nat)) (.int .i64 (C.cyc : Nat)) (.int .i64 (C.full : Nat))
            generalize (((((wr.setCell ⟨w.heap.size, 0, none⟩ (.int .i64 (C.add : Nat))).setCell ⟨w.heap.size, 1, none⟩ (.int .i64 (C.same : Nat))).setCell ⟨w.heap.size, 2, none⟩ (.int .i64 (C.other : Nat))).setCell ⟨w.heap.size, 3, none⟩ (.int .i64 (C.cyc : Nat))).setCell ⟨w.heap.size, 4, none⟩ (.int .i64 (C.full : Nat))) = W9 at q5 ⊢
            have m0 := cell_of_row W9 w.heap.size 0 _ 40 (0, 0) q5
            have m1 := cell_of_row W9 w.heap.size 1 _ 40 (0, 0) q5
            have m2 := cell_of_row W9 w.heap.size 2 _ 40 (0, 0) q5
            have m3 := cell_of_row W9 w.heap.size 3 _ 40 (0, 0) q5
            have m4 := cell_of_row W9 w.heap.size 4 _ 40 (0, 0) q5
            have hz9 : w.heap.size < W9.heap.size := by have := (Array.getElem?_eq_some_iff.1 q5).1; exact this
            clear q5
            unfold cnV
            simp at m0 m1 m2 m3 m4
            simp [results, Tryz.results35, go_sem, m0, m1, m2, m3, m4, hz9, cn0]) rfl ⟨by unfold addV; rw [if_pos HALL.out.1, HFN.out.2.2.2], ?_, ?_⟩
          · rw [addP, if_pos HALL.out.1, HFN.out.2.2.1]
            exact (((((HFN.out.1.grown (grown_set _ _ _ _) (.inr (.inr rfl)) HNEG.out).grown (grown_set _ _ _ _) (.inr (.inr rfl)) HNEG.out).grown (grown_set _ _ _ _) (.inr (.inr rfl)) HNEG.out).grown (grown_set _ _ _ _) (.inr (.inr rfl)) HNEG.out).grown (grown_set _ _ _ _) (.inr (.inr rfl)) HNEG.out).weak (fun k hk => .inl hk)
          · exact five_chg HFN.out.2.1 (.inr (Nat.le_refl w.heap.size)) (.int .i64 (C.add : Nat)) (.int .i64 (C.same : Nat)) (.int .i64 (C.other : Nat)) (.int .i64 (C.cyc : Nat)) (.int .i64 (C.full : Nat))
end Go.Proofs.YtfedkjaollioaaaGreat
/- What Add leaves of the document's store, in memory. -/
namespace Go.Proofs.YtfedkjaollioaaaGreat
set_option linter.unusedVariables false
set_option linter.unusedSimpArgs false
open Go.RowKit

/-- A forest's spans laid anew keep all blocks. -/
theorem insX_tg {R : List Rr} (hr : RisesK kX R) {y : Rr} (hy : y ∈ R) (L : List Sp) : (insK kX R { y with L := L }).map (fun x => (x.t, x.g)) = R.map (fun x => (x.t, x.g)) := by
  induction R with
  | nil => cases hy
  | cons a r ih =>
    have h1 := List.pairwise_cons.1 hr
    rw [insK]
    rcases List.mem_cons.1 hy with rfl | hy'
    · rw [if_neg (show ¬ kX { y with L := L } < kX y from Int.lt_irrefl _), if_pos (show kX { y with L := L } = kX y from rfl)]
      rfl
    · have h2 : kX a < kX y := h1.1 y hy'
      have h3 : kX { y with L := L } = kX y := rfl
      rw [if_neg (by omega), if_neg (by omega)]
      show (a.t, a.g) :: _ = (a.t, a.g) :: _
      rw [ih h1.2 hy']
theorem insX_len {R : List Rr} (hr : RisesK kX R) {y : Rr} (hy : y ∈ R) (L : List Sp) : (insK kX R { y with L := L }).length = R.length := by
  have := congrArg List.length (insX_tg hr hy L)
  simpa using this
theorem insX_g {R : List Rr} (hr : RisesK kX R) {y : Rr} (hy : y ∈ R) (L : List Sp) : (insK kX R { y with L := L }).map (·.g) = R.map (·.g) := by
  have := congrArg (List.map Prod.snd) (insX_tg hr hy L)
  simpa [List.map_map, Function.comp_def] using this
theorem RxT.iff {gx : Nat} {R : List Rr} {k : Nat} : RxT gx R k ↔ k = gx ∨ k ∈ R.map (·.g) := by
  unfold RxT
  constructor
  · rintro (h | ⟨x, hx, rfl⟩)
    · exact .inl h
    · exact .inr (List.mem_map.2 ⟨x, hx, rfl⟩)
  · rintro (h | h)
    · exact .inl h
    · obtain ⟨x, hx, rfl⟩ := List.mem_map.1 h
      exact .inr ⟨x, hx, rfl⟩
theorem RrRow.same {w : World} {v : Value} {R R' : List Rr} (h : RrRow w v R) (hg : R'.map (·.g) = R.map (·.g)) : RrRow w v R' := by
  have hl : R'.length = R.length := by have := congrArg List.length hg; simpa using this
  obtain ⟨p, c, rfl, h1, h2, h3, h4⟩ := h
  refine ⟨p, c, by rw [hl], by omega, h2, h3, fun h0 => ?_⟩
  obtain ⟨g, o, rfl, hx⟩ := h4 (by omega)
  refine ⟨g, o, rfl, fun i x hi => ?_⟩
  have hil := (List.getElem?_eq_some_iff.1 hi).1
  obtain ⟨z, hz⟩ : ∃ z, R[i]? = some z := ⟨_, List.getElem?_eq_getElem (by omega)⟩
  have e : x.g = z.g := by
    have h5 : (R'.map (·.g))[i]? = (R.map (·.g))[i]? := by rw [hg]
    rw [List.getElem?_map, List.getElem?_map, hi, hz] at h5
    simpa using h5
  rw [hx i z hz]
  unfold Rr.v
  rw [e]
theorem Sps.chgT {w w' : World} {v : Value} {l : List Sp} {S : Nat → Prop} (h : Sps w v l) (hc : Chg w w' S) (hn : l = [] ∨ ∀ k, v.ownBlock = some k → ¬ S k) : Sps w' v l := by
  obtain ⟨p, c, rfl, h1, h2, h3, h4⟩ := h
  refine ⟨p, c, rfl, h1, h2, h3, fun h0 => ?_⟩
  obtain ⟨g, o, rfl, hx⟩ := h4 h0
  refine ⟨g, o, rfl, fun i x hi => ?_⟩
  rcases hn with rfl | hn
  · simp at hi
  · intro j u hu
    exact hc.cell (hx i x hi j u hu) (hn g rfl)
theorem RsM.add {w w' : World} {gx : Nat} {R : List Rr} {y : Rr} {L : List Sp} (h : RsM w gx R) (hr : RisesK kX R) (hy : y ∈ R) (hc : Chg w w' fun k => k = y.g) (hf : RfX (RxT gx R) w' y.g y.t L) : RsM w' gx (insK kX R { y with L := L }) := by
  have hg := insX_g hr hy L
  have hT : ∀ k, RxT gx (insK kX R { y with L := L }) k ↔ RxT gx R k := fun k => by rw [RxT.iff, RxT.iff, hg]
  have hne := h.ne y hy
  obtain ⟨v, c0, hrow, hv⟩ := h.c0
  have hyT : RxT gx R y.g := .inr ⟨y, hy, rfl⟩
  refine ⟨⟨v, hc.cell c0 (fun e => hne e.symm), ?_, ?_⟩, ?_, fun x hx => ?_, ?_, fun x hx => ?_⟩
  · refine (hrow.chg hc (hv.imp id fun hv k hk e => hv k hk (e ▸ hyT))).same hg
  · rcases hv with e | hv
    · rw [e] at hy; cases hy
    · exact .inr fun k hk hh => hv k hk ((hT k).1 hh)
  · exact (World.frozen?_of_block (a := ⟨gx, 0, none⟩) (hc.block gx (lt_of_cell c0) (fun e => hne e.symm))).trans h.fr
  · rcases (mem_insK_iff hr).1 hx with rfl | ⟨hx, hk⟩
    · exact hf.weak fun k hk => (hT k).1 hk
    · have hgne : x.g ≠ y.g := fun e => by
        have h1 : x = y := by
          have h2 := h.ids
          obtain ⟨i, hi⟩ := List.getElem?_of_mem hx
          obtain ⟨j, hj⟩ := List.getElem?_of_mem hy
          obtain ⟨hi1, hi2⟩ := List.getElem?_eq_some_iff.1 hi
          obtain ⟨hj1, hj2⟩ := List.getElem?_eq_some_iff.1 hj
          rcases Nat.lt_trichotomy i j with hlt | heq | hlt
          · have := List.pairwise_iff_getElem.1 h2 i j hi1 hj1 hlt
            rw [hi2, hj2] at this
            exact absurd e this
          · subst heq
            rw [hi] at hj
            injection hj
          · have := List.pairwise_iff_getElem.1 h2 j i hj1 hi1 hlt
            rw [hi2, hj2] at this
            exact absurd e.symm this
        rw [h1] at hk
        exact hk rfl
      obtain ⟨a0, a1, u, u1, u2, u3⟩ := h.fo x hx
      have hb : w'.heap[x.g]? = w.heap[x.g]? := hc.block x.g (lt_of_cell a0) hgne
      have hX : RfX (RxT gx R) w' x.g x.t x.L := ⟨(World.cell?_of_block (a := ⟨x.g, 0, none⟩) hb).trans a0, (World.frozen?_of_block (a := ⟨x.g, 1, none⟩) hb).trans a1, u, (World.cell?_of_block (a := ⟨x.g, 1, none⟩) hb).trans u1, u2.chgT hc (u3.imp id fun hh k hk e => hh k hk (e ▸ hyT)), u3⟩
      exact hX.weak fun k hk => (hT k).1 hk
  · have := h.ids
    rw [← List.pairwise_map (f := fun x : Rr => x.g) (R := fun a b => a ≠ b)] at this ⊢
    rw [hg]
    exact this
  · rcases (mem_insK_iff hr).1 hx with rfl | ⟨hx, _⟩
    · exact hne
    · exact h.ne x hx
end Go.Proofs.YtfedkjaollioaaaGreat
/- For the document's Ingest. -/
namespace Go.Proofs.YtfedkjaollioaaaGreat
set_option linter.unusedVariables false
set_option linter.unusedSimpArgs false
open Go.RowKit

/-- What a call that changes the document's store leaves. -/
structure RxTo (w w' : World) (gx : Nat) (R R' : List Rr) (S' : List Pl) : Prop where
  is : RsIs w' gx R'
  pl : R'.map Rr.pl = S'
  chg : Chg w w' (RxT gx R)
  new : ∀ k, RxT gx R' k → RxT gx R k ∨ w.heap.size ≤ k
theorem RxTo.below {w w' w2 : World} {gx : Nat} {R R' : List Rr} {S' : List Pl} (h : RxTo w w' gx R R' S') (hb : Below w'.heap.size w' w2) : RxTo w w2 gx R R' S' := ⟨h.is.below hb, h.pl, h.chg.belowed hb, h.new⟩
/-- A block of counts. -/
def Row5 (w : World) (r : Nat) (c : Cn) : Prop := w.heap[r]? = some (.cells #[.int .i64 (c.add : Nat), .int .i64 (c.same : Nat), .int .i64 (c.other : Nat), .int .i64 (c.cyc : Nat), .int .i64 (c.full : Nat)] 40 (0, 0))
theorem Row5.ints {w : World} {r : Nat} {c : Cn} (h : Row5 w r c) {i : Nat} {u : Value} (hu : w.cell? ⟨r, i, none⟩ = some u) : ∃ z, u = .int .i64 z := by
  rw [cell_of_row w r i _ 40 (0, 0) h] at hu
  match i, hu with
  | 0, hu => exact ⟨_, by simpa using hu.symm⟩
  | 1, hu => exact ⟨_, by simpa using hu.symm⟩
  | 2, hu => exact ⟨_, by simpa using hu.symm⟩
  | 3, hu => exact ⟨_, by simpa using hu.symm⟩
  | 4, hu => exact ⟨_, by simpa using hu.symm⟩
  | n + 5, hu => simp at hu
theorem RsIs.ne5 {w : World} {gx : Nat} {R : List Rr} {r : Nat} {c : Cn} (h : RsIs w gx R) (hr : Row5 w r c) : ¬ RxT gx R r := by
  rintro (rfl | ⟨x, hx, rfl⟩)
  · obtain ⟨v, c0, ⟨p, d, rfl, _⟩, _⟩ := h.c0
    obtain ⟨z, hz⟩ := hr.ints c0
    cases hz
  · obtain ⟨_, _, u, u1, u2, _⟩ := h.fo x hx
    obtain ⟨p, n, d, rfl⟩ := u2.sl
    obtain ⟨z, hz⟩ := hr.ints u1
    cases hz
theorem RsIs.other {w w' : World} {gx : Nat} {R : List Rr} {r : Nat} {c : Cn} (h : RsIs w gx R) (hc : Chg w w' fun k => k = r) (hr : Row5 w r c) : RsIs w' gx R := by
  have hne := h.ne5 hr
  obtain ⟨v, c0, hrow, hvb⟩ := h.c0
  have hgx : gx ≠ r := fun e => hne (.inl e.symm)
  refine ⟨⟨v, hc.cell c0 hgx, hrow.chg hc ?_, hvb⟩, (World.frozen?_of_block (a := ⟨gx, 0, none⟩) (hc.block gx (lt_of_cell c0) hgx)).trans h.fr, h.ok, fun x hx => ?_, h.ids, h.ne⟩
  · obtain ⟨p, d, rfl, _, _, _, hrx⟩ := hrow
    by_cases h0 : R = []
    · exact .inl h0
    · refine .inr fun k hk e => ?_
      obtain ⟨g, o, rfl, hx4⟩ := hrx (List.length_pos_iff.2 h0)
      have hk' : g = k := by injection hk
      have hRp : 0 < R.length := List.length_pos_iff.2 h0
      have h1 := hx4 0 R[0] (List.getElem?_eq_getElem hRp)
      obtain ⟨z, hz⟩ := hr.ints (show w.cell? ⟨r, o + 0, none⟩ = _ by rw [← e, ← hk']; exact h1)
      cases hz
  · obtain ⟨a0, a1, u, u1, u2, u3⟩ := h.fo x hx
    have hxr : x.g ≠ r := fun e => hne (.inr ⟨x, hx, e.symm⟩)
    have hb : w'.heap[x.g]? = w.heap[x.g]? := hc.block x.g (lt_of_cell a0) hxr
    refine ⟨(World.cell?_of_block (a := ⟨x.g, 0, none⟩) hb).trans a0, (World.frozen?_of_block (a := ⟨x.g, 1, none⟩) hb).trans a1, u, (World.cell?_of_block (a := ⟨x.g, 1, none⟩) hb).trans u1, u2.chgT hc ?_, u3⟩
    by_cases h0 : x.L = []
    · exact .inl h0
    · refine .inr fun k hk e => ?_
      obtain ⟨p, n, d, rfl⟩ := u2.sl
      have hl := u2.len.1
      have hp : 0 < x.L.length := List.length_pos_iff.2 h0
      obtain ⟨g, o, rfl, hx5⟩ := u2.at_ (by omega)
      have hk' : g = k := by injection hk
      have h1 := (hx5 0 x.L[0] (List.getElem?_eq_getElem hp)).c5
      obtain ⟨z, hz⟩ := hr.ints (show w.cell? ⟨r, _, none⟩ = _ by rw [← e, ← hk']; exact h1)
      cases hz
theorem RxTo.sets {w w' w2 : World} {gx : Nat} {R R' : List Rr} {S' : List Pl} {r : Nat} {c : Cn} (h : RxTo w w' gx R R' S') (hc : Chg w' w2 fun k => k = r) (hr : Row5 w' r c) (hw : w.heap.size ≤ r) : RxTo w w2 gx R R' S' :=
  ⟨h.is.other hc hr, h.pl, h.chg.trans hc fun k e => .inr (by omega), h.new⟩
/-- One span put into a forest of the store, in memory. -/
theorem RsM.added {w U w' : World} {gx : Nat} {R R1 : List Rr} {y : Rr} {x : Sp} {S : List Pl} {c : Cn} (h : RsM U gx R1) (hr : RisesK kX R1) (hy : y ∈ R1) (hc : Chg U w' fun k => k = y.g) (hf : RfX (RxT gx R1) w' y.g y.t (putP y.L cn0 x).1) (hok : SoOk ((insK kX R1 { y with L := (putP y.L cn0 x).1 }).map Rr.pl)) : RsIs w' gx (insK kX R1 { y with L := (putP y.L cn0 x).1 }) :=
  (h.add hr hy hc hf).is hok
theorem insX_twice {a b : Rr} (e : kX a = kX b) : ∀ R : List Rr, insK kX (insK kX R a) b = insK kX R b
  | [] => by
    rw [insK, insK, insK, if_neg (by omega), if_pos e.symm]
  | y :: r => by
    by_cases h1 : kX a < kX y
    · rw [insK, if_pos h1, insK, if_neg (by omega), if_pos e.symm, insK, if_pos (by omega)]
    · by_cases h2 : kX a = kX y
      · rw [insK, if_neg h1, if_pos h2, insK, if_neg (by omega), if_pos e.symm, insK, if_neg (by omega), if_pos (by omega)]
      · rw [insK, if_neg h1, if_neg h2, insK, if_neg (by omega), if_neg (by omega), insX_twice e r, insK, if_neg (by omega), if_neg (by omega)]
theorem RsM.below {w w' : World} {gx : Nat} {R : List Rr} (h : RsM w gx R) (hb : Below w.heap.size w w') : RsM w' gx R := by
  obtain ⟨v, h1, h2, h3⟩ := h.c0
  have hg : gx < w.heap.size := lt_of_cell h1
  exact ⟨⟨v, (hb.cell (p := ⟨gx, 0, none⟩) hg).trans h1, h2.below hb, h3⟩, (hb.frozen (p := ⟨gx, 0, none⟩) hg).trans h.fr, fun x hx => (h.fo x hx).below hb, h.ids, h.ne⟩
theorem RsM.lt {w : World} {gx : Nat} {R : List Rr} (h : RsM w gx R) : ∀ k, RxT gx R k → k < w.heap.size := by
  rintro k (rfl | ⟨x, hx, rfl⟩)
  · obtain ⟨v, hv, _⟩ := h.c0
    exact lt_of_cell hv
  · exact lt_of_cell (h.fo x hx).c0
theorem add_one (t : Int) (L : List Sp) (x : Sp) (hx : x.ok = true) (ht : x.t = t) : addV t L [x] = .tuple #[cnV (putP L cn0 x).2, .int .i64 0] ∧ addP t L [x] = (putP L cn0 x).1 := by
  have h : [x].all (fun y => y.ok && decide (y.t = t)) = true := by simp [hx, ht]
  unfold addV addP
  rw [if_pos h, if_pos h]
  exact ⟨rfl, rfl⟩
theorem put1_found {R : List Rr} (hr : RisesK kX R) {y : Rr} (hy : y ∈ R) {x : Sp} (ht : x.t = y.t) : put1 (R.map Rr.pl) x = ((insK kX R { y with L := (putP y.L cn0 x).1 }).map Rr.pl, (putP y.L cn0 x).2) := by
  have hf : fndK kP (R.map Rr.pl) x.t = some y.pl := by
    rw [ht]
    exact fndK_of ((risesK_map Rr.pl kP_pl).2 hr).ids (List.mem_map.2 ⟨y, hy, rfl⟩)
  unfold put1
  rw [hf]
  dsimp only
  rw [insK_map Rr.pl kP_pl, ht]
  rfl
theorem put1_open {R : List Rr} {x : Sp} (hno : ∀ z ∈ R, z.t ≠ x.t) (hl : ¬ 32 ≤ R.length) (g : Nat) : put1 (R.map Rr.pl) x = ((insK kX (insK kX R ⟨x.t, g, []⟩) ⟨x.t, g, (putP [] cn0 x).1⟩).map Rr.pl, (putP [] cn0 x).2) := by
  have hf : fndK kP (R.map Rr.pl) x.t = none := by
    rw [fndK_none]
    intro y hy
    obtain ⟨z, hz, rfl⟩ := List.mem_map.1 hy
    exact hno z hz
  unfold put1
  rw [hf]
  dsimp only
  rw [List.length_map, if_neg hl, insX_twice (a := ⟨x.t, g, []⟩) (b := ⟨x.t, g, (putP [] cn0 x).1⟩) rfl, insK_map Rr.pl kP_pl]
  rfl
theorem put1_no {R : List Rr} {x : Sp} (hno : ∀ z ∈ R, z.t ≠ x.t) (hl : 32 ≤ R.length) : put1 (R.map Rr.pl) x = (R.map Rr.pl, ⟨0, 0, 0, 0, 1⟩) := by
  have hf : fndK kP (R.map Rr.pl) x.t = none := by
    rw [fndK_none]
    intro y hy
    obtain ⟨z, hz, rfl⟩ := List.mem_map.1 hy
    exact hno z hz
  unfold put1
  rw [hf]
  dsimp only
  rw [List.length_map, if_pos hl]
/-- A span put in: what is left. -/
theorem RxTo.added {w U w8 : World} {gx : Nat} {R R1 : List Rr} {y : Rr} {x : Sp} {S6 : List Pl} (hM : RsM U gx R1) (hris : RisesK kX R1) (hy : y ∈ R1) (hf : RfX (RxT gx R1) w8 y.g y.t (putP y.L cn0 x).1) (hc : Chg U w8 fun k => k = y.g) (hU : Chg w U (RxT gx R)) (hnew : ∀ k, RxT gx R1 k → RxT gx R k ∨ w.heap.size ≤ k)
    (hpl : (insK kX R1 { y with L := (putP y.L cn0 x).1 }).map Rr.pl = S6) (hok : SoOk S6) : RxTo w w8 gx R (insK kX R1 { y with L := (putP y.L cn0 x).1 }) S6 := by
  refine ⟨(hM.add hris hy hc hf).is (by rw [hpl]; exact hok), hpl, hU.trans hc fun k e => ?_, fun k hk => ?_⟩
  · rw [e]; exact hnew _ (.inr ⟨y, hy, rfl⟩)
  · refine hnew k ?_
    rw [RxT.iff] at hk ⊢
    rw [insX_g hris hy] at hk
    exact hk
end Go.Proofs.YtfedkjaollioaaaGreat
/- The document's Ingest. -/
namespace Go.Proofs.YtfedkjaollioaaaGreat
set_option linter.unusedVariables false
set_option linter.unusedSimpArgs false
open Go.RowKit

set_option maxRecDepth 200000 in
set_option maxHeartbeats 4000000 in
theorem ringest_any {w : World} {gx : Nat} {R : List Rr} {l : List Sp} {v : Value} (h : RsIs w gx R) (hv : Sps w v l) (hvn : l = [] ∨ ∀ k, v.ownBlock = some k → ¬ RxT gx R k) (hl : l.length ≤ 100000) (hnm : ∀ x ∈ l, x.n.size ≤ 1000000) :
    Calls Tryz.prog 13 #[.pointer (some ⟨gx, 0, none⟩), v] w fun e w' => e = .returned (.tuple #[cnV (ingC (R.map Rr.pl) l), .int .i64 (ingE l)]) ∧ ∃ R', RxTo w w' gx R R' (ingS (R.map Rr.pl) l) := by
  obtain ⟨p, n, c, rfl⟩ := hv.sl
  have hn := hv.len.1
  have hn1 : n ≤ 100000 := by omega
  obtain ⟨X, hX⟩ : ∃ X, (w.alloc (.cells #[.int .i64 0, .int .i64 0, .int .i64 0, .int .i64 0, .int .i64 0] 40)).alloc (.cells #[.int .i64 0, .int .i64 0, .int .i64 0, .int .i64 0, .int .i64 0] 40) = X := ⟨_, rfl⟩
  have hb1 : Below w.heap.size w X := by rw [← hX]; exact ((Below.refl w.heap.size w).alloc (Nat.le_refl _) _).alloc (by simp) _
  have hr0 : X.heap[w.heap.size]? = some (.cells #[.int .i64 0, .int .i64 0, .int .i64 0, .int .i64 0, .int .i64 0] 40 (0, 0)) := by rw [← hX, heap_alloc_old _ _ (by simp)]; exact heap_alloc_new _ _
  have hr1 : X.heap[w.heap.size + 1]? = some (.cells #[.int .i64 0, .int .i64 0, .int .i64 0, .int .i64 0, .int .i64 0] 40 (0, 0)) := by
    rw [← hX]
    have h9 := heap_alloc_new (w.alloc (.cells #[.int .i64 0, .int .i64 0, .int .i64 0, .int .i64 0, .int .i64 0] 40)) (.cells #[.int .i64 0, .int .i64 0, .int .i64 0, .int .i64 0, .int .i64 0] 40)
    simpa using h9
  have hXs : X.heap.size = w.heap.size + 2 := by rw [← hX]; simp
  have HV := hide (And.intro hv hvn)
  have HN := hide hn
  have HNM := hide hnm
  have HF := hide h
  have HX := hide (And.intro hb1 (And.intro hr0 (And.intro hr1 hXs)))
  clear hv hvn hn hnm h hb1 hr0 hr1 hXs hl
  go_enter Tryz.func13, Tryz.ntmps13
  have cX0 := cell_of_row X (w.heap.size + 1) 0 _ 40 (0, 0) HX.out.2.2.1
  have cX1 := cell_of_row X (w.heap.size + 1) 1 _ 40 (0, 0) HX.out.2.2.1
  have cX2 := cell_of_row X (w.heap.size + 1) 2 _ 40 (0, 0) HX.out.2.2.1
  have cX3 := cell_of_row X (w.heap.size + 1) 3 _ 40 (0, 0) HX.out.2.2.1
  have cX4 := cell_of_row X (w.heap.size + 1) 4 _ 40 (0, 0) HX.out.2.2.1
  have fX0 := frozen_of_row X (w.heap.size + 1) 0 _ 40 HX.out.2.2.1
  have fX1 := frozen_of_row X (w.heap.size + 1) 1 _ 40 HX.out.2.2.1
  have fX2 := frozen_of_row X (w.heap.size + 1) 2 _ 40 HX.out.2.2.1
  have fX3 := frozen_of_row X (w.heap.size + 1) 3 _ 40 HX.out.2.2.1
  have fX4 := frozen_of_row X (w.heap.size + 1) 4 _ 40 HX.out.2.2.1
  go_upto_region 2 with fail
  clear cX0 cX1 cX2 cX3 cX4 fX0 fX1 fX2 fX3 fX4 hX
  obtain ⟨Y, hY⟩ : ∃ Y, ((((X.setCell ⟨w.heap.size + 1, 0, none⟩ (.int .i64 0)).setCell ⟨w.heap.size + 1, 1, none⟩ (.int .i64 0)).setCell ⟨w.heap.size + 1, 2, none⟩ (.int .i64 0)).setCell ⟨w.heap.size + 1, 3, none⟩ (.int .i64 0)).setCell ⟨w.heap.size + 1, 4, none⟩ (.int .i64 0) = Y := ⟨_, rfl⟩
  have hrY : Y.heap[w.heap.size + 1]? = some (.cells #[.int .i64 0, .int .i64 0, .int .i64 0, .int .i64 0, .int .i64 0] 40 (0, 0)) := by rw [← hY]; exact five_set HX.out.2.2.1 (.int .i64 0) (.int .i64 0) (.int .i64 0) (.int .i64 0) (.int .i64 0)
  have hcY : Chg X Y fun k => k = w.heap.size + 1 := by rw [← hY]; exact five_chg (Chg.refl X (fun k => k = w.heap.size + 1)) (.inl rfl) (.int .i64 0) (.int .i64 0) (.int .i64 0) (.int .i64 0) (.int .i64 0)
  rw [hY]
  have HY := hide (And.intro (Chg.to_below HX.out.1 hcY (fun k e => by omega)) (And.intro ((hcY.block w.heap.size (by have := HX.out.2.2.2; omega) (by omega)).trans HX.out.2.1) (And.intro hrY (show w.heap.size + 2 ≤ Y.heap.size by have := HX.out.2.2.2; have := hcY.size; omega))))
  clear hY hrY hcY HX
  go_wp2_with fail
  go_loopw [5, 8, 17] (fun _ _ ix wr => ∃ k : Nat, k ≤ n ∧ ix = .int .i64 k ∧ Hid (Below Y.heap.size Y wr ∧ (l.take k).all Sp.ok = true)) (fun _ _ ix _ => n - (intOf ix).toNat)
  case atStart => exact ⟨0, by omega, rfl, hide ⟨Below.refl _ _, rfl⟩⟩
  case round =>
    obtain ⟨k, hk, rfl, HR⟩ := hrel
    by_cases hlt : (k : Int) < (n : Int)
    · obtain ⟨gv, ov, rfl, hx⟩ := HV.out.1.at_ (by omega)
      obtain ⟨x, hxk⟩ : ∃ x, l[k]? = some x := ⟨_, List.getElem?_eq_getElem (by have := HN.out; omega)⟩
      have hbw : Below w.heap.size w wr := HY.out.1.trans (HR.out.1.mono HY.out.1.size)
      have hat := (hx k x hxk).below hbw
      obtain ⟨oo, hoo⟩ : ∃ oo, ov + k * 6 = oo := ⟨_, rfl⟩
      rw [hoo] at hat
      have z0 := hat.c0
      have z1 := hat.c1
      have z2 := hat.c2
      have z3 := hat.c3
      have z4 := hat.c4
      have z5 := hat.c5
      have HCK := hide (refCheck_any x (HNM.out x (List.mem_of_getElem? hxk)))
      have hbY : Below wr.heap.size wr (wr.alloc (.cells #[.int .i64 x.t, .int .i64 x.i, .int .i64 x.p, .int .i64 x.s, .int .i64 x.e, .string x.n] 38)) := (Below.refl _ _).alloc (Nat.le_refl _) _
      have HXK := hide hxk
      have HBY := hide (HR.out.1.trans (hbY.mono HR.out.1.size))
      clear hx hxk hat hbY hbw
      obtain ⟨t, i, p', s, en, nm⟩ := x
      dsimp only at *
      unfold spV at *
      dsimp only at *
      go_wp2_with fail
      refine (HCK.out _).mono ?_
      rintro e7 w7 ⟨rfl, hb7⟩
      have HB7 : Hid (Below Y.heap.size Y w7) := hide (HBY.out.trans (hb7.mono HBY.out.size))
      clear hb7 HCK
      by_cases hok : Sp.ok ⟨t, i, p', s, en, nm⟩ = true
      · rw [if_pos hok]
        have HOK := hide hok
        clear hok
        go_wp2
        go_roundw
        case rel =>
          refine ⟨k + 1, by omega, by go_num, hide ⟨HB7.out, ?_⟩⟩
          have h1 : l.take (k + 1) = l.take k ++ [⟨t, i, p', s, en, nm⟩] := by rw [List.take_add_one, HXK.out]; rfl
          rw [h1, List.all_append, HR.out.2]
          simp only [List.all_cons, List.all_nil, Bool.and_true, Bool.true_and]
          exact HOK.out
        case measure => simp [intOf]; omega
      · have HBAD : Hid (¬ l.all Sp.ok = true) := hide (fun hall => hok (List.all_eq_true.1 hall _ (List.mem_of_getElem? HXK.out)))
        rw [if_neg hok]
        clear hok
        have hbw9 : Below w.heap.size w w7 := HY.out.1.trans (HB7.out.mono HY.out.1.size)
        have hrr : w7.heap[w.heap.size]? = some (.cells #[.int .i64 0, .int .i64 0, .int .i64 0, .int .i64 0, .int .i64 0] 40 (0, 0)) := (HB7.out.block w.heap.size (by have := HY.out.2.2.2; omega)).trans HY.out.2.1
        have hrb : w7.heap[w.heap.size + 1]? = some (.cells #[.int .i64 0, .int .i64 0, .int .i64 0, .int .i64 0, .int .i64 0] 40 (0, 0)) := (HB7.out.block (w.heap.size + 1) (by have := HY.out.2.2.2; omega)).trans HY.out.2.2.1
        have cb0 := cell_of_row w7 w.heap.size 0 _ 40 (0, 0) hrr
        have cb1 := cell_of_row w7 w.heap.size 1 _ 40 (0, 0) hrr
        have cb2 := cell_of_row w7 w.heap.size 2 _ 40 (0, 0) hrr
        have cb3 := cell_of_row w7 w.heap.size 3 _ 40 (0, 0) hrr
        have cb4 := cell_of_row w7 w.heap.size 4 _ 40 (0, 0) hrr
        have cf0 := frozen_of_row w7 w.heap.size 0 _ 40 hrr
        have cf1 := frozen_of_row w7 w.heap.size 1 _ 40 hrr
        have cf2 := frozen_of_row w7 w.heap.size 2 _ 40 hrr
        have cf3 := frozen_of_row w7 w.heap.size 3 _ 40 hrr
        have cf4 := frozen_of_row w7 w.heap.size 4 _ 40 hrr
        have cn0' := cell_of_row w7 (w.heap.size + 1) 0 _ 40 (0, 0) hrb
        have cn1' := cell_of_row w7 (w.heap.size + 1) 1 _ 40 (0, 0) hrb
        have cn2' := cell_of_row w7 (w.heap.size + 1) 2 _ 40 (0, 0) hrb
        have cn3' := cell_of_row w7 (w.heap.size + 1) 3 _ 40 (0, 0) hrb
        have cn4' := cell_of_row w7 (w.heap.size + 1) 4 _ 40 (0, 0) hrb
        have HRW := hide hrr
        have HBW9 := hide hbw9
        clear hrr hrb hbw9
        go_wp2
        refine bodyPost_ret (v := .tuple #[cnV cn0, .int .i64 30]) (by
          have q5 := five_set HRW.out (.int .i64 0) (.int .i64 0) (.int .i64 0) (.int .i64 0) (.int .i64 0)
          generalize (((((w7.setCell ⟨w.heap.size, 0, none⟩ (.int .i64 0)).setCell ⟨w.heap.size, 1, none⟩ (.int .i64 0)).setCell ⟨w.heap.size, 2, none⟩ (.int .i64 0)).setCell ⟨w.heap.size, 3, none⟩ (.int .i64 0)).setCell ⟨w.heap.size, 4, none⟩ (.int .i64 0)) = W9 at q5 ⊢
          have m0 := cell_of_row W9 w.heap.size 0 _ 40 (0, 0) q5
          have m1 := cell_of_row W9 w.heap.size 1 _ 40 (0, 0) q5
          have m2 := cell_of_row W9 w.heap.size 2 _ 40 (0, 0) q5
          have m3 := cell_of_row W9 w.heap.size 3 _ 40 (0, 0) q5
          have m4 := cell_of_row W9 w.heap.size 4 _ 40 (0, 0) q5
          have hz9 : w.heap.size < W9.heap.size := by have := (Array.getElem?_eq_some_iff.1 q5).1; exact this
          clear q5
          unfold cnV
          simp at m0 m1 m2 m3 m4
          simp [results, Tryz.results13, go_sem, m0, m1, m2, m3, m4, hz9, cn0]) rfl ⟨by unfold ingC ingE; rw [if_neg HBAD.out, if_neg HBAD.out], R, ?_⟩
        have hc9 := five_chg (Chg.refl w7 (fun k => k = w.heap.size)) (.inl rfl) (.int .i64 0) (.int .i64 0) (.int .i64 0) (.int .i64 0) (.int .i64 0)
        rw [ingS, if_neg HBAD.out]
        have hto : RxTo w w7 gx R R (R.map Rr.pl) := ⟨HF.out.below HBW9.out, rfl, Chg.of_below HBW9.out _, fun k hk => .inl hk⟩
        exact hto.sets (c := cn0) hc9 HRW.out (Nat.le_refl _)
    · have hkn : k = n := by omega
      subst hkn
      have hall : l.all Sp.ok = true := by
        have := HR.out.2
        rwa [List.take_of_length_le (by have := HN.out; omega)] at this
      have hwr : Below w.heap.size w wr := HY.out.1.trans (HR.out.1.mono HY.out.1.size)
      have h00 : Row5 wr w.heap.size cn0 := (HR.out.1.block w.heap.size (by have := HY.out.2.2.2; omega)).trans HY.out.2.1
      have h01 : Row5 wr (w.heap.size + 1) cn0 := (HR.out.1.block (w.heap.size + 1) (by have := HY.out.2.2.2; omega)).trans HY.out.2.2.1
      have H0 : Hid (∃ R', RxTo w wr gx R R' (puts (R.map Rr.pl) (l.take 0)).1 ∧ Row5 wr (w.heap.size + 1) (puts (R.map Rr.pl) (l.take 0)).2 ∧ Row5 wr w.heap.size cn0) := hide ⟨R, ⟨HF.out.below hwr, rfl, Chg.of_below hwr _, fun k hk => .inl hk⟩, h01, h00⟩
      have HALL := hide hall
      clear hall hwr h00 h01 HR
      go_wp2_with fail
      go_loopw [10, 11, 12, 13, 28] (fun _ _ _ _ ix wz => ∃ j : Nat, j ≤ k ∧ ix = .int .i64 j ∧ Hid (∃ R', RxTo w wz gx R R' (puts (R.map Rr.pl) (l.take j)).1 ∧ Row5 wz (w.heap.size + 1) (puts (R.map Rr.pl) (l.take j)).2 ∧ Row5 wz w.heap.size cn0)) (fun _ _ _ _ ix _ => k - (intOf ix).toNat)
      case atStart => exact ⟨0, by omega, rfl, H0⟩
      case round =>
        obtain ⟨j, hj, rfl, HQ⟩ := hrel
        obtain ⟨R', hto, hgb, hgr⟩ := HQ.out
        by_cases hlt2 : (j : Int) < (k : Int)
        · obtain ⟨gv, ov, rfl, hx⟩ := (HV.out.1.chgT hto.chg HV.out.2).at_ (by omega)
          obtain ⟨x, hxk⟩ : ∃ x, l[j]? = some x := ⟨_, List.getElem?_eq_getElem (by have := HN.out; omega)⟩
          have hat := hx j x hxk
          obtain ⟨oo, hoo⟩ : ∃ oo, ov + j * 6 = oo := ⟨_, rfl⟩
          rw [hoo] at hat
          have z0 := hat.c0
          have z1 := hat.c1
          have z2 := hat.c2
          have z3 := hat.c3
          have z4 := hat.c4
          have z5 := hat.c5
          have HTK : Hid (l.take (j + 1) = l.take j ++ [x]) := hide (by rw [List.take_add_one, hxk]; rfl)
          have hsum : (puts (R.map Rr.pl) (l.take j)).2.sum ≤ 1000000 := by
            rw [puts_sum, List.length_take]
            omega
          obtain ⟨C, hC⟩ : ∃ C, (puts (R.map Rr.pl) (l.take j)).2 = C := ⟨_, rfl⟩
          obtain ⟨S, hS⟩ : ∃ S, (puts (R.map Rr.pl) (l.take j)).1 = S := ⟨_, rfl⟩
          rw [hC] at hsum hgb
          rw [hS] at hto
          have hSok : SoOk S := by rw [← hto.pl]; exact hto.is.ok
          obtain ⟨C1, hC1⟩ : ∃ C1, (put1 S x).2 = C1 := ⟨_, rfl⟩
          have HPS := hide (And.intro hS hC)
          have HCS := hide (And.intro hSok (And.intro hto.pl hsum))
          have HXN := hide (And.intro (HNM.out x (List.mem_of_getElem? hxk)) (List.all_eq_true.1 HALL.out x (List.mem_of_getElem? hxk)))
          obtain ⟨Z, hZ⟩ : ∃ Z, wr.alloc (.cells #[.int .i64 x.t, .int .i64 x.i, .int .i64 x.p, .int .i64 x.s, .int .i64 x.e, .string x.n] 38) = Z := ⟨_, rfl⟩
          obtain ⟨bz, hbz⟩ : ∃ b, wr.heap.size = b := ⟨_, rfl⟩
          have hnew := spAt_new wr x
          have hbZ : Below wr.heap.size wr Z := by rw [← hZ]; exact (Below.refl _ _).alloc (Nat.le_refl _) _
          rw [hZ, hbz] at hnew
          obtain ⟨y0, y1, y2, y3, y4, y5⟩ := hnew.z
          have HTO := hide (And.intro (hto.below hbZ) (And.intro ((hbZ.block (w.heap.size + 1) (Array.getElem?_eq_some_iff.1 hgb).1).trans hgb) (And.intro ((hbZ.block w.heap.size (Array.getElem?_eq_some_iff.1 hgr).1).trans hgr) hnew)))
          have HFO := hide (rforest_any (hto.is.below hbZ) x.t)
          have HBZ := hide (show bz ≠ gx from by rw [← hbz]; have := hto.is.lt gx (.inl rfl); omega)
          have HC1 := hide hC1
          clear hx hxk hat hsum hC hS hto hgb hgr hSok hnew hbZ hC1
          obtain ⟨t, i, p', s, en, nm⟩ := x
          dsimp only at *
          go_upto_region 11 with fail
          clear hZ hbz
          go_wp2_with fail
          refine HFO.out.mono ?_
          rintro e5 w5 ⟨rfl, hb5⟩
          obtain ⟨d0, d1, d2, d3, d4, d5⟩ := (HTO.out.2.2.2.below hb5).z
          dsimp only at d0 d1 d2 d3 d4 d5
          have HD5 := hide (HTO.out.2.2.2.below hb5)
          have H5 := hide (And.intro (HTO.out.1.below hb5) (And.intro ((hb5.block (w.heap.size + 1) (Array.getElem?_eq_some_iff.1 HTO.out.2.1).1).trans HTO.out.2.1) ((hb5.block w.heap.size (Array.getElem?_eq_some_iff.1 HTO.out.2.2.1).1).trans HTO.out.2.2.1)))
          clear hb5 HFO y0 y1 y2 y3 y4 y5 z0 z1 z2 z3 z4 z5
          cases hf : R'.find? fun y => y.t == t with
          | some y =>
            rw [show ptrX R' t = .pointer (some ⟨y.g, 0, none⟩) by unfold ptrX; rw [hf]; rfl]
            have hyR := List.mem_of_find?_eq_some hf
            have hyt : t = y.t := by have := List.find?_some hf; simp at this; exact this.symm
            have hris : RisesK kX R' := (risesK_map Rr.pl kP_pl).1 H5.out.1.is.ok.rises
            have hp1 := put1_found hris hyR (x := (⟨t, i, p', s, en, nm⟩ : Sp)) hyt
            rw [HCS.out.2.1] at hp1
            have hne5 : ∀ r c, Row5 w5 r c → r ≠ y.g := fun r c hr e => H5.out.1.is.ne5 hr (.inr ⟨y, hyR, e⟩)
            obtain ⟨R1, hR1⟩ : ∃ R1, R1 = R' := ⟨_, rfl⟩
            obtain ⟨y1, hy1⟩ : ∃ y1, y1 = y := ⟨_, rfl⟩
            obtain ⟨U0, hU0⟩ : ∃ U0, U0 = w5 := ⟨_, rfl⟩
            have HM : Hid (RsM U0 gx R1 ∧ y1 ∈ R1 ∧ FoOk y1.t y1.L ∧ t = y1.t ∧ (putP y1.L cn0 (⟨t, i, p', s, en, nm⟩ : Sp)).2 = C1 ∧ RisesK kX R1 ∧ (insK kX R1 { y1 with L := (putP y1.L cn0 (⟨t, i, p', s, en, nm⟩ : Sp)).1 }).map Rr.pl = (put1 S (⟨t, i, p', s, en, nm⟩ : Sp)).1 ∧ Chg w U0 (RxT gx R) ∧ (∀ k, RxT gx R1 k → RxT gx R k ∨ w.heap.size ≤ k) ∧ Row5 U0 (w.heap.size + 1) C ∧ Row5 U0 w.heap.size cn0 ∧ w.heap.size + 1 ≠ y1.g ∧ w.heap.size ≠ y1.g) := hide (by
              subst hR1 hy1 hU0
              exact ⟨H5.out.1.is.mem, hyR, (H5.out.1.is.ok.ok _ (List.mem_map.2 ⟨_, hyR, rfl⟩)).1, hyt, by rw [← HC1.out, hp1], hris, by rw [hp1], H5.out.1.chg, H5.out.1.new, H5.out.2.1, H5.out.2.2, hne5 _ _ H5.out.2.1, hne5 _ _ H5.out.2.2⟩)
            clear hyR hyt hris hp1 hne5 hf
            rw [← hy1]
            rw [← hU0] at d0 d1 d2 d3 d4 d5 ⊢
            clear hR1 hy1 hU0 H5
            have hbU : Below U0.heap.size U0 (U0.alloc (.cells #[.int .i64 t, .int .i64 i, .int .i64 p', .int .i64 s, .int .i64 en, .string nm] 38)) := (Below.refl _ _).alloc (Nat.le_refl _) _
            have hMU := HM.out.1.below hbU
            have hltU := HM.out.1.lt
            have AD := hide (refAddT_any (T := RxT gx R1) (hMU.fo y1 HM.out.2.1) (.inr ⟨y1, HM.out.2.1, rfl⟩) (fun k hk => Nat.lt_of_lt_of_le (hltU k hk) hbU.size) HM.out.2.2.1 (sps_one (spAt_new U0 ⟨t, i, p', s, en, nm⟩)) (by simp) (fun z hz => by simp at hz; rw [hz]; exact HXN.out.1) (.inr (fun e => by
              have h1 := hltU y1.g (.inr ⟨y1, HM.out.2.1, rfl⟩)
              have h2 : U0.heap.size = y1.g := by injection e
              omega)))
            rw [(add_one y1.t y1.L ⟨t, i, p', s, en, nm⟩ HXN.out.2 HM.out.2.2.2.1).1, (add_one y1.t y1.L ⟨t, i, p', s, en, nm⟩ HXN.out.2 HM.out.2.2.2.1).2, HM.out.2.2.2.2.1] at AD
            have HU := hide (And.intro hbU hMU)
            clear hbU hMU hltU
            have HSU : Hid (∀ V, Calls Tryz.prog 36 #[.agg #[.int .i64 (C.add : Nat), .int .i64 (C.same : Nat), .int .i64 (C.other : Nat), .int .i64 (C.cyc : Nat), .int .i64 (C.full : Nat)], .agg #[.int .i64 (C1.add : Nat), .int .i64 (C1.same : Nat), .int .i64 (C1.other : Nat), .int .i64 (C1.cyc : Nat), .int .i64 (C1.full : Nat)]] V fun e w' => e = .returned (cnV (C.plus C1)) ∧ Below V.heap.size V w') := hide fun V => refSum_any V C C1 HCS.out.2.2 (by rw [← HC1.out, put1_sum]; omega)
            go_wp2_with fail
            refine AD.out.mono ?_
            rintro e8 w8 ⟨rfl, hf8, hc8⟩
            have hHM := HM.out.2.2.2.2.2
            have HS8 : Hid ((∃ R6, RxTo w w8 gx R R6 (put1 S (⟨t, i, p', s, en, nm⟩ : Sp)).1) ∧ Row5 w8 (w.heap.size + 1) C ∧ Row5 w8 w.heap.size cn0) := hide ⟨⟨_, RxTo.added HU.out.2 hHM.1 HM.out.2.1 hf8 hc8 (hHM.2.2.1.belowed HU.out.1) hHM.2.2.2.1 hHM.2.1 (put1_ok HCS.out.1 HXN.out.2)⟩,
              (hc8.block (w.heap.size + 1) (Nat.lt_of_lt_of_le (Array.getElem?_eq_some_iff.1 hHM.2.2.2.2.1).1 HU.out.1.size) hHM.2.2.2.2.2.2.1).trans ((HU.out.1.block (w.heap.size + 1) (Array.getElem?_eq_some_iff.1 hHM.2.2.2.2.1).1).trans hHM.2.2.2.2.1),
              (hc8.block w.heap.size (Nat.lt_of_lt_of_le (Array.getElem?_eq_some_iff.1 hHM.2.2.2.2.2.1).1 HU.out.1.size) hHM.2.2.2.2.2.2.2).trans ((HU.out.1.block w.heap.size (Array.getElem?_eq_some_iff.1 hHM.2.2.2.2.2.1).1).trans hHM.2.2.2.2.2.1)⟩
            obtain ⟨⟨R6, hS8a⟩, hS8b⟩ := HS8.out
            clear HS8
            have HS8 := hide (And.intro hS8a hS8b)
            clear hf8 hc8 hHM hS8a hS8b AD
            unfold cnV
            obtain ⟨V, hV⟩ : ∃ V, w8.alloc (.cells #[.int .i64 (C1.add : Nat), .int .i64 (C1.same : Nat), .int .i64 (C1.other : Nat), .int .i64 (C1.cyc : Nat), .int .i64 (C1.full : Nat)] 40) = V := ⟨_, rfl⟩
            obtain ⟨bv, hbv⟩ : ∃ b, w8.heap.size = b := ⟨_, rfl⟩
            have hbV : Below w8.heap.size w8 V := by rw [← hV]; exact (Below.refl _ _).alloc (Nat.le_refl _) _
            have hrv : Row5 V bv C1 := by rw [← hV, ← hbv]; exact heap_alloc_new _ _
            have hrn : Row5 V (w.heap.size + 1) C := (hbV.block (w.heap.size + 1) (Array.getElem?_eq_some_iff.1 HS8.out.2.1).1).trans HS8.out.2.1
            have hr0 : Row5 V w.heap.size cn0 := (hbV.block w.heap.size (Array.getElem?_eq_some_iff.1 HS8.out.2.2).1).trans HS8.out.2.2
            have HSV := hide (And.intro (HS8.out.1.below hbV) (And.intro hrn hr0))
            have sn0 : V.cell? ⟨(w.heap.size + 1), 0, none⟩ = some (.int .i64 (C.add : Nat)) := by have h := cell_of_row V (w.heap.size + 1) 0 _ 40 (0, 0) (hrn); simpa using h
            have sn1 : V.cell? ⟨(w.heap.size + 1), 1, none⟩ = some (.int .i64 (C.same : Nat)) := by have h := cell_of_row V (w.heap.size + 1) 1 _ 40 (0, 0) (hrn); simpa using h
            have sn2 : V.cell? ⟨(w.heap.size + 1), 2, none⟩ = some (.int .i64 (C.other : Nat)) := by have h := cell_of_row V (w.heap.size + 1) 2 _ 40 (0, 0) (hrn); simpa using h
            have sn3 : V.cell? ⟨(w.heap.size + 1), 3, none⟩ = some (.int .i64 (C.cyc : Nat)) := by have h := cell_of_row V (w.heap.size + 1) 3 _ 40 (0, 0) (hrn); simpa using h
            have sn4 : V.cell? ⟨(w.heap.size + 1), 4, none⟩ = some (.int .i64 (C.full : Nat)) := by have h := cell_of_row V (w.heap.size + 1) 4 _ 40 (0, 0) (hrn); simpa using h
            have sv0 : V.cell? ⟨bv, 0, none⟩ = some (.int .i64 (C1.add : Nat)) := by have h := cell_of_row V bv 0 _ 40 (0, 0) (hrv); simpa using h
            have sv1 : V.cell? ⟨bv, 1, none⟩ = some (.int .i64 (C1.same : Nat)) := by have h := cell_of_row V bv 1 _ 40 (0, 0) (hrv); simpa using h
            have sv2 : V.cell? ⟨bv, 2, none⟩ = some (.int .i64 (C1.other : Nat)) := by have h := cell_of_row V bv 2 _ 40 (0, 0) (hrv); simpa using h
            have sv3 : V.cell? ⟨bv, 3, none⟩ = some (.int .i64 (C1.cyc : Nat)) := by have h := cell_of_row V bv 3 _ 40 (0, 0) (hrv); simpa using h
            have sv4 : V.cell? ⟨bv, 4, none⟩ = some (.int .i64 (C1.full : Nat)) := by have h := cell_of_row V bv 4 _ 40 (0, 0) (hrv); simpa using h
            clear hrv hrn hr0 hbV
            go_upto_region 17 with fail
            clear hV hbv
            go_wp2_with fail
            refine (HSU.out _).mono ?_
            rintro e9 w9 ⟨rfl, hb9⟩
            have hrn9 : Row5 w9 (w.heap.size + 1) C := (hb9.block (w.heap.size + 1) (Array.getElem?_eq_some_iff.1 HSV.out.2.1).1).trans HSV.out.2.1
            have hr09 : Row5 w9 w.heap.size cn0 := (hb9.block w.heap.size (Array.getElem?_eq_some_iff.1 HSV.out.2.2).1).trans HSV.out.2.2
            have HS9 := hide (And.intro (HSV.out.1.below hb9) (And.intro hrn9 hr09))
            have sp0 : w9.cell? ⟨(w.heap.size + 1), 0, none⟩ = some (.int .i64 (C.add : Nat)) := by have h := cell_of_row w9 (w.heap.size + 1) 0 _ 40 (0, 0) (hrn9); simpa using h
            have sp1 : w9.cell? ⟨(w.heap.size + 1), 1, none⟩ = some (.int .i64 (C.same : Nat)) := by have h := cell_of_row w9 (w.heap.size + 1) 1 _ 40 (0, 0) (hrn9); simpa using h
            have sp2 : w9.cell? ⟨(w.heap.size + 1), 2, none⟩ = some (.int .i64 (C.other : Nat)) := by have h := cell_of_row w9 (w.heap.size + 1) 2 _ 40 (0, 0) (hrn9); simpa using h
            have sp3 : w9.cell? ⟨(w.heap.size + 1), 3, none⟩ = some (.int .i64 (C.cyc : Nat)) := by have h := cell_of_row w9 (w.heap.size + 1) 3 _ 40 (0, 0) (hrn9); simpa using h
            have sp4 : w9.cell? ⟨(w.heap.size + 1), 4, none⟩ = some (.int .i64 (C.full : Nat)) := by have h := cell_of_row w9 (w.heap.size + 1) 4 _ 40 (0, 0) (hrn9); simpa using h
            have sf0 := frozen_of_row w9 (w.heap.size + 1) 0 _ 40 (hrn9)
            have sf1 := frozen_of_row w9 (w.heap.size + 1) 1 _ 40 (hrn9)
            have sf2 := frozen_of_row w9 (w.heap.size + 1) 2 _ 40 (hrn9)
            have sf3 := frozen_of_row w9 (w.heap.size + 1) 3 _ 40 (hrn9)
            have sf4 := frozen_of_row w9 (w.heap.size + 1) 4 _ 40 (hrn9)
            clear hrn9 hr09 hb9
            unfold cnV Cn.plus
            dsimp only
            go_wp2
            have hs5 := five_set HS9.out.2.1 (.int .i64 ((C.plus C1).add : Nat)) (.int .i64 ((C.plus C1).same : Nat)) (.int .i64 ((C.plus C1).other : Nat)) (.int .i64 ((C.plus C1).cyc : Nat)) (.int .i64 ((C.plus C1).full : Nat))
            have hc5 := five_chg (Chg.refl w9 (fun k => k = w.heap.size + 1)) (.inl rfl) (.int .i64 ((C.plus C1).add : Nat)) (.int .i64 ((C.plus C1).same : Nat)) (.int .i64 ((C.plus C1).other : Nat)) (.int .i64 ((C.plus C1).cyc : Nat)) (.int .i64 ((C.plus C1).full : Nat))
            simp only [Cn.plus, Int.natCast_add] at hs5 hc5
            go_roundw
            case rel =>
              refine ⟨j + 1, by omega, by go_num, hide ?_⟩
              rw [HTK.out, puts_snoc, HPS.out.1, HPS.out.2]
              refine ⟨_, HS9.out.1.sets hc5 HS9.out.2.1 (by omega), ?_, (hc5.block w.heap.size (Array.getElem?_eq_some_iff.1 HS9.out.2.2).1 (by omega)).trans HS9.out.2.2⟩
              dsimp only
              rw [HC1.out]
              unfold Row5 Cn.plus
              simp only [Int.natCast_add]
              exact hs5
            case measure => simp [intOf]; omega
          | none =>
            rw [show ptrX R' t = .pointer none by unfold ptrX; rw [hf]; rfl]
            have hno : ∀ z ∈ R', z.t ≠ t := fun z hz => by
              have := List.find?_eq_none.1 hf z hz
              simpa using this
            obtain ⟨vx, c0x, ⟨px, cx, rfl, _, _, _, _⟩, _⟩ := H5.out.1.is.c0
            by_cases hl : R'.length = 32
            · have hp1 := put1_no (x := (⟨t, i, p', s, en, nm⟩ : Sp)) hno (by omega)
              rw [HCS.out.2.1] at hp1
              rw [hl] at c0x
              have hr5 := H5.out.2.1
              have s4 : w5.cell? ⟨w.heap.size + 1, 4, none⟩ = some (.int .i64 (C.full : Nat)) := by have h := cell_of_row w5 (w.heap.size + 1) 4 _ 40 (0, 0) hr5; simpa using h
              have f4 := frozen_of_row w5 (w.heap.size + 1) 4 _ 40 hr5
              have hfb : (C.full : Int) ≤ 1000000 := by have := HCS.out.2.2; unfold Cn.sum at this; omega
              have HP1 := hide hp1
              clear hf hno hp1 hr5 hl
              go_wp2
              have hrs := heap_setCell_same w5 (w.heap.size + 1) 4 _ 40 (.int .i64 ((C.full : Int) + 1)) H5.out.2.1
              have hcs : Chg w5 (w5.setCell ⟨w.heap.size + 1, 4, none⟩ (.int .i64 ((C.full : Int) + 1))) fun k => k = w.heap.size + 1 := (Chg.refl w5 _).set _ (.inl rfl)
              go_roundw
              case rel =>
                refine ⟨j + 1, by omega, by go_num, hide ?_⟩
                rw [HTK.out, puts_snoc, HPS.out.1, HPS.out.2, HP1.out]
                refine ⟨_, H5.out.1.sets hcs H5.out.2.1 (by omega), ?_, (hcs.block w.heap.size (Array.getElem?_eq_some_iff.1 H5.out.2.2).1 (by omega)).trans H5.out.2.2⟩
                unfold Row5 Cn.plus
                simpa using hrs
              case measure => simp [intOf]; omega
            · have hne32 : ((R'.length : Int) == 32) = false := by simp; omega
              have HOP := hide (ropen_any H5.out.1.is t hno)
              have hris0 : RisesK kX R' := (risesK_map Rr.pl kP_pl).1 H5.out.1.is.ok.rises
              have hl32 : R'.length ≤ 32 := by have := H5.out.1.is.ok.len; simpa using this
              have HNO := hide (And.intro hno (And.intro hris0 (show ¬ 32 ≤ R'.length by omega)))
              clear hf hno hris0
              go_wp2_with fail
              refine HOP.out.mono ?_
              rintro e6 w6 ⟨gf, rfl, hgf, hm6, hc6⟩
              have hgx5 : ∀ r c, Row5 w5 r c → r ≠ gx := fun r c hr e => H5.out.1.is.ne5 hr (.inl e)
              have hsp6 : SpAt w6 bz 0 (⟨t, i, p', s, en, nm⟩ : Sp) := fun i u hu => hc6.cell (HD5.out i u hu) HBZ.out
              clear d0 d1 d2 d3 d4 d5 c0x hl hne32 HOP
              obtain ⟨d0, d1, d2, d3, d4, d5⟩ := hsp6.z
              dsimp only at d0 d1 d2 d3 d4 d5
              have hp1 := put1_open (x := (⟨t, i, p', s, en, nm⟩ : Sp)) HNO.out.1 HNO.out.2.2 gf
              rw [HCS.out.2.1] at hp1
              obtain ⟨y1, hy1⟩ : ∃ y1 : Rr, y1 = ⟨t, gf, []⟩ := ⟨_, rfl⟩
              obtain ⟨R1, hR1⟩ : ∃ R1, R1 = insK kX R' ⟨t, gf, []⟩ := ⟨_, rfl⟩
              obtain ⟨U0, hU0⟩ : ∃ U0, U0 = w6 := ⟨_, rfl⟩
              have hw5 := H5.out.1.chg.size
              have hg1 := (Array.getElem?_eq_some_iff.1 H5.out.2.1).1
              have HM : Hid (RsM U0 gx R1 ∧ y1 ∈ R1 ∧ FoOk y1.t y1.L ∧ t = y1.t ∧ (putP y1.L cn0 (⟨t, i, p', s, en, nm⟩ : Sp)).2 = C1 ∧ RisesK kX R1 ∧ (insK kX R1 { y1 with L := (putP y1.L cn0 (⟨t, i, p', s, en, nm⟩ : Sp)).1 }).map Rr.pl = (put1 S (⟨t, i, p', s, en, nm⟩ : Sp)).1 ∧ Chg w U0 (RxT gx R) ∧ (∀ k, RxT gx R1 k → RxT gx R k ∨ w.heap.size ≤ k) ∧ Row5 U0 (w.heap.size + 1) C ∧ Row5 U0 w.heap.size cn0 ∧ w.heap.size + 1 ≠ y1.g ∧ w.heap.size ≠ y1.g) := hide (by
                subst hR1 hy1 hU0
                refine ⟨hm6, (mem_insK_iff HNO.out.2.1).2 (.inl rfl), foOk_nil t, rfl, by rw [← HC1.out, hp1], HNO.out.2.1.ins _, by rw [hp1], H5.out.1.chg.trans hc6 fun k e => .inl (.inl e), fun k hk => ?_, (hc6.block _ hg1 (hgx5 _ _ H5.out.2.1)).trans H5.out.2.1, (hc6.block _ (Array.getElem?_eq_some_iff.1 H5.out.2.2).1 (hgx5 _ _ H5.out.2.2)).trans H5.out.2.2, by show w.heap.size + 1 ≠ gf; omega, by show w.heap.size ≠ gf; omega⟩
                rcases hk with e | ⟨z, hz, rfl⟩
                · exact .inl (.inl e)
                · rcases mem_insK' hz with rfl | hz
                  · exact .inr (by show w.heap.size ≤ gf; omega)
                  · exact H5.out.1.new _ (.inr ⟨z, hz, rfl⟩))
              rw [show (Value.pointer (some ⟨gf, 0, none⟩)) = .pointer (some ⟨y1.g, 0, none⟩) by rw [hy1]]
              rw [← hU0] at d0 d1 d2 d3 d4 d5 ⊢
              clear hR1 hy1 hU0 hp1 hm6 hc6 hgf hgx5 hsp6 hw5 hg1 H5 HD5 HNO
              have hbU : Below U0.heap.size U0 (U0.alloc (.cells #[.int .i64 t, .int .i64 i, .int .i64 p', .int .i64 s, .int .i64 en, .string nm] 38)) := (Below.refl _ _).alloc (Nat.le_refl _) _
              have hMU := HM.out.1.below hbU
              have hltU := HM.out.1.lt
              have AD := hide (refAddT_any (T := RxT gx R1) (hMU.fo y1 HM.out.2.1) (.inr ⟨y1, HM.out.2.1, rfl⟩) (fun k hk => Nat.lt_of_lt_of_le (hltU k hk) hbU.size) HM.out.2.2.1 (sps_one (spAt_new U0 ⟨t, i, p', s, en, nm⟩)) (by simp) (fun z hz => by simp at hz; rw [hz]; exact HXN.out.1) (.inr (fun e => by
                have h1 := hltU y1.g (.inr ⟨y1, HM.out.2.1, rfl⟩)
                have h2 : U0.heap.size = y1.g := by injection e
                omega)))
              rw [(add_one y1.t y1.L ⟨t, i, p', s, en, nm⟩ HXN.out.2 HM.out.2.2.2.1).1, (add_one y1.t y1.L ⟨t, i, p', s, en, nm⟩ HXN.out.2 HM.out.2.2.2.1).2, HM.out.2.2.2.2.1] at AD
              have HU := hide (And.intro hbU hMU)
              clear hbU hMU hltU
              have HSU : Hid (∀ V, Calls Tryz.prog 36 #[.agg #[.int .i64 (C.add : Nat), .int .i64 (C.same : Nat), .int .i64 (C.other : Nat), .int .i64 (C.cyc : Nat), .int .i64 (C.full : Nat)], .agg #[.int .i64 (C1.add : Nat), .int .i64 (C1.same : Nat), .int .i64 (C1.other : Nat), .int .i64 (C1.cyc : Nat), .int .i64 (C1.full : Nat)]] V fun e w' => e = .returned (cnV (C.plus C1)) ∧ Below V.heap.size V w') := hide fun V => refSum_any V C C1 HCS.out.2.2 (by rw [← HC1.out, put1_sum]; omega)
              go_wp2_with fail
              refine AD.out.mono ?_
              rintro e8 w8 ⟨rfl, hf8, hc8⟩
              have hHM := HM.out.2.2.2.2.2
              have HS8 : Hid ((∃ R6, RxTo w w8 gx R R6 (put1 S (⟨t, i, p', s, en, nm⟩ : Sp)).1) ∧ Row5 w8 (w.heap.size + 1) C ∧ Row5 w8 w.heap.size cn0) := hide ⟨⟨_, RxTo.added HU.out.2 hHM.1 HM.out.2.1 hf8 hc8 (hHM.2.2.1.belowed HU.out.1) hHM.2.2.2.1 hHM.2.1 (put1_ok HCS.out.1 HXN.out.2)⟩,
                (hc8.block (w.heap.size + 1) (Nat.lt_of_lt_of_le (Array.getElem?_eq_some_iff.1 hHM.2.2.2.2.1).1 HU.out.1.size) hHM.2.2.2.2.2.2.1).trans ((HU.out.1.block (w.heap.size + 1) (Array.getElem?_eq_some_iff.1 hHM.2.2.2.2.1).1).trans hHM.2.2.2.2.1),
                (hc8.block w.heap.size (Nat.lt_of_lt_of_le (Array.getElem?_eq_some_iff.1 hHM.2.2.2.2.2.1).1 HU.out.1.size) hHM.2.2.2.2.2.2.2).trans ((HU.out.1.block w.heap.size (Array.getElem?_eq_some_iff.1 hHM.2.2.2.2.2.1).1).trans hHM.2.2.2.2.2.1)⟩
              obtain ⟨⟨R6, hS8a⟩, hS8b⟩ := HS8.out
              clear HS8
              have HS8 := hide (And.intro hS8a hS8b)
              clear hf8 hc8 hHM hS8a hS8b AD
              unfold cnV
              obtain ⟨V, hV⟩ : ∃ V, w8.alloc (.cells #[.int .i64 (C1.add : Nat), .int .i64 (C1.same : Nat), .int .i64 (C1.other : Nat), .int .i64 (C1.cyc : Nat), .int .i64 (C1.full : Nat)] 40) = V := ⟨_, rfl⟩
              obtain ⟨bv, hbv⟩ : ∃ b, w8.heap.size = b := ⟨_, rfl⟩
              have hbV : Below w8.heap.size w8 V := by rw [← hV]; exact (Below.refl _ _).alloc (Nat.le_refl _) _
              have hrv : Row5 V bv C1 := by rw [← hV, ← hbv]; exact heap_alloc_new _ _
              have hrn : Row5 V (w.heap.size + 1) C := (hbV.block (w.heap.size + 1) (Array.getElem?_eq_some_iff.1 HS8.out.2.1).1).trans HS8.out.2.1
              have hr0 : Row5 V w.heap.size cn0 := (hbV.block w.heap.size (Array.getElem?_eq_some_iff.1 HS8.out.2.2).1).trans HS8.out.2.2
              have HSV := hide (And.intro (HS8.out.1.below hbV) (And.intro hrn hr0))
              have sn0 : V.cell? ⟨(w.heap.size + 1), 0, none⟩ = some (.int .i64 (C.add : Nat)) := by have h := cell_of_row V (w.heap.size + 1) 0 _ 40 (0, 0) (hrn); simpa using h
              have sn1 : V.cell? ⟨(w.heap.size + 1), 1, none⟩ = some (.int .i64 (C.same : Nat)) := by have h := cell_of_row V (w.heap.size + 1) 1 _ 40 (0, 0) (hrn); simpa using h
              have sn2 : V.cell? ⟨(w.heap.size + 1), 2, none⟩ = some (.int .i64 (C.other : Nat)) := by have h := cell_of_row V (w.heap.size + 1) 2 _ 40 (0, 0) (hrn); simpa using h
              have sn3 : V.cell? ⟨(w.heap.size + 1), 3, none⟩ = some (.int .i64 (C.cyc : Nat)) := by have h := cell_of_row V (w.heap.size + 1) 3 _ 40 (0, 0) (hrn); simpa using h
              have sn4 : V.cell? ⟨(w.heap.size + 1), 4, none⟩ = some (.int .i64 (C.full : Nat)) := by have h := cell_of_row V (w.heap.size + 1) 4 _ 40 (0, 0) (hrn); simpa using h
              have sv0 : V.cell? ⟨bv, 0, none⟩ = some (.int .i64 (C1.add : Nat)) := by have h := cell_of_row V bv 0 _ 40 (0, 0) (hrv); simpa using h
              have sv1 : V.cell? ⟨bv, 1, none⟩ = some (.int .i64 (C1.same : Nat)) := by have h := cell_of_row V bv 1 _ 40 (0, 0) (hrv); simpa using h
              have sv2 : V.cell? ⟨bv, 2, none⟩ = some (.int .i64 (C1.other : Nat)) := by have h := cell_of_row V bv 2 _ 40 (0, 0) (hrv); simpa using h
              have sv3 : V.cell? ⟨bv, 3, none⟩ = some (.int .i64 (C1.cyc : Nat)) := by have h := cell_of_row V bv 3 _ 40 (0, 0) (hrv); simpa using h
              have sv4 : V.cell? ⟨bv, 4, none⟩ = some (.int .i64 (C1.full : Nat)) := by have h := cell_of_row V bv 4 _ 40 (0, 0) (hrv); simpa using h
              clear hrv hrn hr0 hbV
              go_upto_region 17 with fail
              clear hV hbv
              go_wp2_with fail
              refine (HSU.out _).mono ?_
              rintro e9 w9 ⟨rfl, hb9⟩
              have hrn9 : Row5 w9 (w.heap.size + 1) C := (hb9.block (w.heap.size + 1) (Array.getElem?_eq_some_iff.1 HSV.out.2.1).1).trans HSV.out.2.1
              have hr09 : Row5 w9 w.heap.size cn0 := (hb9.block w.heap.size (Array.getElem?_eq_some_iff.1 HSV.out.2.2).1).trans HSV.out.2.2
              have HS9 := hide (And.intro (HSV.out.1.below hb9) (And.intro hrn9 hr09))
              have sp0 : w9.cell? ⟨(w.heap.size + 1), 0, none⟩ = some (.int .i64 (C.add : Nat)) := by have h := cell_of_row w9 (w.heap.size + 1) 0 _ 40 (0, 0) (hrn9); simpa using h
              have sp1 : w9.cell? ⟨(w.heap.size + 1), 1, none⟩ = some (.int .i64 (C.same : Nat)) := by have h := cell_of_row w9 (w.heap.size + 1) 1 _ 40 (0, 0) (hrn9); simpa using h
              have sp2 : w9.cell? ⟨(w.heap.size + 1), 2, none⟩ = some (.int .i64 (C.other : Nat)) := by have h := cell_of_row w9 (w.heap.size + 1) 2 _ 40 (0, 0) (hrn9); simpa using h
              have sp3 : w9.cell? ⟨(w.heap.size + 1), 3, none⟩ = some (.int .i64 (C.cyc : Nat)) := by have h := cell_of_row w9 (w.heap.size + 1) 3 _ 40 (0, 0) (hrn9); simpa using h
              have sp4 : w9.cell? ⟨(w.heap.size + 1), 4, none⟩ = some (.int .i64 (C.full : Nat)) := by have h := cell_of_row w9 (w.heap.size + 1) 4 _ 40 (0, 0) (hrn9); simpa using h
              have sf0 := frozen_of_row w9 (w.heap.size + 1) 0 _ 40 (hrn9)
              have sf1 := frozen_of_row w9 (w.heap.size + 1) 1 _ 40 (hrn9)
              have sf2 := frozen_of_row w9 (w.heap.size + 1) 2 _ 40 (hrn9)
              have sf3 := frozen_of_row w9 (w.heap.size + 1) 3 _ 40 (hrn9)
              have sf4 := frozen_of_row w9 (w.heap.size + 1) 4 _ 40 (hrn9)
              clear hrn9 hr09 hb9
              unfold cnV Cn.plus
              dsimp only
              go_wp2
              have hs5 := five_set HS9.out.2.1 (.int .i64 ((C.plus C1).add : Nat)) (.int .i64 ((C.plus C1).same : Nat)) (.int .i64 ((C.plus C1).other : Nat)) (.int .i64 ((C.plus C1).cyc : Nat)) (.int .i64 ((C.plus C1).full : Nat))
              have hc5 := five_chg (Chg.refl w9 (fun k => k = w.heap.size + 1)) (.inl rfl) (.int .i64 ((C.plus C1).add : Nat)) (.int .i64 ((C.plus C1).same : Nat)) (.int .i64 ((C.plus C1).other : Nat)) (.int .i64 ((C.plus C1).cyc : Nat)) (.int .i64 ((C.plus C1).full : Nat))
              simp only [Cn.plus, Int.natCast_add] at hs5 hc5
              go_roundw
              case rel =>
                refine ⟨j + 1, by omega, by go_num, hide ?_⟩
                rw [HTK.out, puts_snoc, HPS.out.1, HPS.out.2]
                refine ⟨_, HS9.out.1.sets hc5 HS9.out.2.1 (by omega), ?_, (hc5.block w.heap.size (Array.getElem?_eq_some_iff.1 HS9.out.2.2).1 (by omega)).trans HS9.out.2.2⟩
                dsimp only
                rw [HC1.out]
                unfold Row5 Cn.plus
                simp only [Int.natCast_add]
                exact hs5
              case measure => simp [intOf]; omega
        · have hjk : j = k := by omega
          subst hjk
          have htl : l.take j = l := List.take_of_length_le (by have := HN.out; omega)
          rw [htl] at hto hgb
          obtain ⟨C, hC⟩ : ∃ C, (puts (R.map Rr.pl) l).2 = C := ⟨_, rfl⟩
          rw [hC] at hgb
          have HC := hide hC
          have HTO := hide hto
          have sn0 : wr.cell? ⟨(w.heap.size + 1), 0, none⟩ = some (.int .i64 (C.add : Nat)) := by have h := cell_of_row wr (w.heap.size + 1) 0 _ 40 (0, 0) (hgb); simpa using h
          have sn1 : wr.cell? ⟨(w.heap.size + 1), 1, none⟩ = some (.int .i64 (C.same : Nat)) := by have h := cell_of_row wr (w.heap.size + 1) 1 _ 40 (0, 0) (hgb); simpa using h
          have sn2 : wr.cell? ⟨(w.heap.size + 1), 2, none⟩ = some (.int .i64 (C.other : Nat)) := by have h := cell_of_row wr (w.heap.size + 1) 2 _ 40 (0, 0) (hgb); simpa using h
          have sn3 : wr.cell? ⟨(w.heap.size + 1), 3, none⟩ = some (.int .i64 (C.cyc : Nat)) := by have h := cell_of_row wr (w.heap.size + 1) 3 _ 40 (0, 0) (hgb); simpa using h
          have sn4 : wr.cell? ⟨(w.heap.size + 1), 4, none⟩ = some (.int .i64 (C.full : Nat)) := by have h := cell_of_row wr (w.heap.size + 1) 4 _ 40 (0, 0) (hgb); simpa using h
          have sr0 : wr.cell? ⟨w.heap.size, 0, none⟩ = some (.int .i64 (cn0.add : Nat)) := by have h := cell_of_row wr w.heap.size 0 _ 40 (0, 0) (hgr); simpa using h
          have sr1 : wr.cell? ⟨w.heap.size, 1, none⟩ = some (.int .i64 (cn0.same : Nat)) := by have h := cell_of_row wr w.heap.size 1 _ 40 (0, 0) (hgr); simpa using h
          have sr2 : wr.cell? ⟨w.heap.size, 2, none⟩ = some (.int .i64 (cn0.other : Nat)) := by have h := cell_of_row wr w.heap.size 2 _ 40 (0, 0) (hgr); simpa using h
          have sr3 : wr.cell? ⟨w.heap.size, 3, none⟩ = some (.int .i64 (cn0.cyc : Nat)) := by have h := cell_of_row wr w.heap.size 3 _ 40 (0, 0) (hgr); simpa using h
          have sr4 : wr.cell? ⟨w.heap.size, 4, none⟩ = some (.int .i64 (cn0.full : Nat)) := by have h := cell_of_row wr w.heap.size 4 _ 40 (0, 0) (hgr); simpa using h
          have sg0 := frozen_of_row wr w.heap.size 0 _ 40 (hgr)
          have sg1 := frozen_of_row wr w.heap.size 1 _ 40 (hgr)
          have sg2 := frozen_of_row wr w.heap.size 2 _ 40 (hgr)
          have sg3 := frozen_of_row wr w.heap.size 3 _ 40 (hgr)
          have sg4 := frozen_of_row wr w.heap.size 4 _ 40 (hgr)
          have HRW := hide hgr
          clear htl hto hgb hgr hC
          go_wp2
          refine bodyPost_ret (v := .tuple #[cnV C, .int .i64 0]) (by
            have q5 := five_set HRW.out (.int .i64 (C.add : Nat)) (.int .i64 (C.same : Nat)) (.int .i64 (C.other : Nat)) (.int .i64 (C.cyc : Nat)) (.int .i64 (C.full : Nat))
            generalize (((((wr.setCell ⟨w.heap.size, 0, none⟩ (.int .i64 (C.add : Nat))).setCell ⟨w.heap.size, 1, none⟩ (.int .i64 (C.same : Nat))).setCell ⟨w.heap.size, 2, none⟩ (.int .i64 (C.other : Nat))).setCell ⟨w.heap.size, 3, none⟩ (.int .i64 (C.cyc : Nat))).setCell ⟨w.heap.size, 4, none⟩ (.int .i64 (C.full : Nat))) = W9 at q5 ⊢
            have m0 := cell_of_row W9 w.heap.size 0 _ 40 (0, 0) q5
            have m1 := cell_of_row W9 w.heap.size 1 _ 40 (0, 0) q5
            have m2 := cell_of_row W9 w.heap.size 2 _ 40 (0, 0) q5
            have m3 := cell_of_row W9 w.heap.size 3 _ 40 (0, 0) q5
            have m4 := cell_of_row W9 w.heap.size 4 _ 40 (0, 0) q5
            have hz9 : w.heap.size < W9.heap.size := by have := (Array.getElem?_eq_some_iff.1 q5).1; exact this
            clear q5
            unfold cnV
            simp at m0 m1 m2 m3 m4
            simp [results, Tryz.results13, go_sem, m0, m1, m2, m3, m4, hz9, cn0]) rfl ⟨by unfold ingC ingE; rw [if_pos HALL.out, if_pos HALL.out, HC.out], R', ?_⟩
          have hc9 := five_chg (Chg.refl wr (fun k => k = w.heap.size)) (.inl rfl) (.int .i64 (C.add : Nat)) (.int .i64 (C.same : Nat)) (.int .i64 (C.other : Nat)) (.int .i64 (C.cyc : Nat)) (.int .i64 (C.full : Nat))
          rw [ingS, if_pos HALL.out]
          exact HTO.out.sets hc9 HRW.out (Nat.le_refl _)
end Go.Proofs.YtfedkjaollioaaaGreat
