/- Behind a crash that keeps some acts whole the others were never done. -/
import Derived.Test.YthcakinkioniaabDPlain4
namespace Go.Proofs.Ythcakinkioniaab
open Go.RowKit

/-- Two disks, and blocks that are none of theirs. -/
def TwoK (w0 : World) (K : Nat → Prop) (w : World) (g1 : Nat) (s1 : Dk) (g2 : Nat) (s2 : Dk) : Prop := ∃ S1 C1 S2 C2, DiskIs w S1 C1 g1 s1 ∧ DiskIs w S2 C2 g2 s2 ∧ (∀ i, S1 i → w0.heap.size ≤ i ∧ ¬ S2 i ∧ ¬ C2 i) ∧ (∀ i, S2 i → w0.heap.size ≤ i ∧ ¬ S1 i ∧ ¬ C1 i) ∧ Below w0.heap.size w0 w ∧ ∀ i, K i → ¬ S1 i ∧ ¬ S2 i ∧ i < w.heap.size
section
variable {w0 w : World} {K : Nat → Prop} {g1 g2 : Nat} {s1 s2 : Dk}
theorem TwoK.two (h : TwoK w0 K w g1 s1 g2 s2) : Two w0 w g1 s1 g2 s2 := by
  obtain ⟨S1, C1, S2, C2, h1, h2, h3, h4, h5, _⟩ := h
  exact ⟨S1, C1, S2, C2, h1, h2, h3, h4, h5⟩
theorem TwoK.swap (h : TwoK w0 K w g1 s1 g2 s2) : TwoK w0 K w g2 s2 g1 s1 := by
  obtain ⟨S1, C1, S2, C2, h1, h2, h3, h4, h5, h6⟩ := h
  exact ⟨S2, C2, S1, C1, h2, h1, h4, h3, h5, fun i hi => ⟨(h6 i hi).2.1, (h6 i hi).1, (h6 i hi).2.2⟩⟩
theorem Two.boxed (h : Two w0 w g1 s1 g2 s2) (o : Obj) : TwoK w0 (fun i => i = w.heap.size) (w.alloc o) g1 s1 g2 s2 := by
  obtain ⟨S1, C1, S2, C2, h1, h2, h3, h4, h5⟩ := h
  have hc := chg_alloc w o
  refine ⟨S1, C1, S2, C2, h1.chg hc (fun _ _ h => h) (fun _ _ h => h), h2.chg hc (fun _ _ h => h) (fun _ _ h => h), h3, h4, Chg.to_below h5 hc fun _ h => h.elim, fun i hi => ⟨fun hs => ?_, fun hs => ?_, ?_⟩⟩
  · have := h1.sap i hs; omega
  · have := h2.sap i hs; omega
  · rw [size_alloc']; omega
theorem TwoK.chg {w' : World} (h : TwoK w0 K w g1 s1 g2 s2) (hc : Chg w w' (fun _ => False)) : TwoK w0 K w' g1 s1 g2 s2 := by
  obtain ⟨S1, C1, S2, C2, h1, h2, h3, h4, h5, h6⟩ := h
  exact ⟨S1, C1, S2, C2, h1.chg hc (fun _ _ h => h) (fun _ _ h => h), h2.chg hc (fun _ _ h => h) (fun _ _ h => h), h3, h4, Chg.to_below h5 hc fun _ h => h.elim, fun i hi => ⟨(h6 i hi).1, (h6 i hi).2.1, Nat.lt_of_lt_of_le (h6 i hi).2.2 hc.size⟩⟩
theorem TwoK.call {f : Nat} {args : Array Value} {r : Nat} {s1' : Dk} (h : TwoK w0 K w g1 s1 g2 s2)
    (hcall : ∀ S C, DiskIs w S C g1 s1 → Calls Try.prog f args w fun e w' => e = .returned (.int .i64 (r : Nat)) ∧ DPost w S C g1 s1' w') :
    Calls Try.prog f args w fun e w' => e = .returned (.int .i64 (r : Nat)) ∧ TwoK w0 K w' g1 s1' g2 s2 ∧ Chg w w' (fun i => ¬ K i) := by
  obtain ⟨S1, C1, S2, C2, h1, h2, h3, h4, h5, h6⟩ := h
  refine (hcall S1 C1 h1).mono ?_
  rintro e w' ⟨he, S', C', k1, k2, k3, k4⟩
  have hs := h5.size
  refine ⟨he, ⟨S', C', S2, C2, k1, h2.chg k2 (fun i hi hj => (h4 i hi).2.1 hj) (fun i hi hj => (h3 i hj).2.2 hi), fun i hi => ?_, fun i hi => ⟨(h4 i hi).1, fun hj => ?_, fun hj => ?_⟩, Chg.to_below h5 k2 fun i hi => (h3 i hi).1, fun i hi => ⟨fun hj => ?_, (h6 i hi).2.1, Nat.lt_of_lt_of_le (h6 i hi).2.2 k2.size⟩⟩, k2.mono fun i hi hk => (h6 i hk).1 hi⟩
  · rcases k3 i hi with hi | hi
    · exact h3 i hi
    · exact ⟨by omega, fun hj => by have := h2.sap i hj; omega, fun hj => by have := h2.cap i hj; omega⟩
  · rcases k3 i hj with hj | hj
    · exact (h4 i hi).2.1 hj
    · have := h2.sap i hi; omega
  · rcases k4 i hj with hj | hj
    · exact (h4 i hi).2.2 hj
    · have := h2.sap i hi; omega
  · rcases k3 i hj with hj | hj
    · exact (h6 i hi).1 hj
    · have := (h6 i hi).2.2; omega
theorem pending_two (h : TwoK w0 K w g1 s1 g2 s2) : Calls Try.prog 17 #[.pointer (some ⟨g1, 0, none⟩)] w fun e w' => e = .returned (.int .i64 (s1.acts.length : Nat)) ∧ w = w' := by
  obtain ⟨S1, C1, S2, C2, h1, _⟩ := h
  exact pending_call h1
theorem does_two (h : TwoK w0 K w g1 s1 g2 s2) (hq : s1.Calm) {x : Rec} {q : Option Addr} {m c : Nat} (hx : DoIs w (doV x.op x.name x.to x.at_ (.slice q m c) x.n x.keep x.tear) x.op x.name x.to x.at_ q m c x.b x.n x.keep x.tear) (hbl : x.b.length ≤ 140737488355328) :
    Calls Try.prog 19 #[.pointer (some ⟨g1, 0, none⟩), doV x.op x.name x.to x.at_ (.slice q m c) x.n x.keep x.tear] w fun e w' => e = .returned (.int .i64 ((s1.step x).1 : Nat)) ∧ TwoK w0 K w' g1 (s1.step x).2 g2 s2 ∧ Chg w w' (fun i => ¬ K i) :=
  h.call fun _ _ hD => does_disk hD hq hx.h1 hx.h2 hx.h3 hx.hb hbl hx.h4 hx.h5 hx.h6
end

/-- The cells of a call's box. -/
def recC (x : Rec) (q : Option Addr) (m c : Nat) : Array Value := #[.int .i64 x.op, .string x.name, .string x.to, .int .i64 x.at_, .slice q m c, .int .i64 x.n, .int .i64 x.keep, .int .i64 x.tear]
structure BoxAt (w : World) (B : Nat) (x : Rec) (q : Option Addr) (m c : Nat) : Prop where
  c0 : w.cell? ⟨B, 0, none⟩ = some (.int .i64 x.op)
  c1 : w.cell? ⟨B, 1, none⟩ = some (.string x.name)
  c2 : w.cell? ⟨B, 2, none⟩ = some (.string x.to)
  c3 : w.cell? ⟨B, 3, none⟩ = some (.int .i64 x.at_)
  c4 : w.cell? ⟨B, 4, none⟩ = some (.slice q m c)
  c5 : w.cell? ⟨B, 5, none⟩ = some (.int .i64 x.n)
  c6 : w.cell? ⟨B, 6, none⟩ = some (.int .i64 x.keep)
  c7 : w.cell? ⟨B, 7, none⟩ = some (.int .i64 x.tear)
theorem BoxAt.new (w : World) (x : Rec) (q : Option Addr) (m c : Nat) : BoxAt (w.alloc (.cells (recC x q m c) 35)) w.heap.size x q m c :=
  ⟨by rw [World.cell?_alloc_new]; rfl, by rw [World.cell?_alloc_new]; rfl, by rw [World.cell?_alloc_new]; rfl, by rw [World.cell?_alloc_new]; rfl, by rw [World.cell?_alloc_new]; rfl, by rw [World.cell?_alloc_new]; rfl, by rw [World.cell?_alloc_new]; rfl, by rw [World.cell?_alloc_new]; rfl⟩
theorem BoxAt.chg {w w' : World} {B : Nat} {x : Rec} {q : Option Addr} {m c : Nat} {S : Nat → Prop} (h : BoxAt w B x q m c) (hc : Chg w w' S) (hn : ¬ S B) : BoxAt w' B x q m c :=
  ⟨hc.cell h.c0 hn, hc.cell h.c1 hn, hc.cell h.c2 hn, hc.cell h.c3 hn, hc.cell h.c4 hn, hc.cell h.c5 hn, hc.cell h.c6 hn, hc.cell h.c7 hn⟩

set_option maxRecDepth 200000 in
set_option maxHeartbeats 8000000 in
theorem prefix_any {w : World} {room : Int} {p : Option Addr} {len cap : Nat} {l : List Rec} (h : Dos w p len cap l) {p2 : Option Addr} {len2 cap2 : Nat} {l2 : List Rec} (h2 : Dos w p2 len2 cap2 l2) {keep : Int} :
    Calls Try.prog 5 #[.int .i64 room, .slice p len cap, .slice p2 len2 cap2, .int .i64 keep] w fun e w' => e = .returned (.bool true) ∧ Below w.heap.size w w' := by
  have HM := hide (made_law (room := room) h)
  have HD2 := hide h2
  have hcap2 := h2.cap_
  have hmax2 := h2.max_
  unfold maxLen at hmax2
  obtain ⟨r1, r2⟩ := modOf_ok (m := 121) (by omega) (by omega) keep
  have HR := hide r1
  clear r1 h2
  go_enter Try.func5, Try.ntmps5
  go_wp2_with fail
  refine HM.out.mono ?_
  rintro e w1 ⟨g, rfl, hd⟩
  rcases hs : isShort l with _ | _
  · have HB := hide hd.below
    clear hd
    go_wp2_with fail
    refine (awake_any w1).mono ?_
    rintro e w2 ⟨rfl, hb⟩
    go_wp2
    go_ret
    exact ⟨rfl, HB.out.trans (hb.mono HB.out.size)⟩
  have hcal := made_calm h hs (roomOf room)
  rw [if_pos hs] at hd
  go_wp2_with fail
  refine (short_any (HD2.out.chg (Chg.of_below hd.below _))).mono ?_
  rintro e w1' ⟨rfl, hc1⟩
  have hd := hd.chg hc1
  clear hc1
  rcases hs2 : isShort l2 with _ | _
  · have HB := hide hd.below
    clear hd
    go_wp2_with fail
    refine (awake_any w1').mono ?_
    rintro e w2 ⟨rfl, hb⟩
    go_wp2
    go_ret
    exact ⟨rfl, HB.out.trans (hb.mono HB.out.size)⟩
  obtain ⟨s, hse⟩ : ∃ s, s = (plays (Dk.new (roomOf room)) l).woken := ⟨_, rfl⟩
  have hnm : s.Named := hse ▸ (plays_named (new_named _) l).woken
  go_wp2_with fail
  refine (start_own hd).mono ?_
  rintro e w2 ⟨rfl, hd2⟩
  rw [show ((0 : Nat) : Int) = 0 from rfl]
  clear hd
  go_wp2_with fail
  refine (arm_own hd2 (n := 0) (keep := 0) (tear := 0) (by omega) (by omega)).mono ?_
  rintro e w3 ⟨rfl, hd3⟩
  replace hd3 : Own1 w g (plays (Dk.new (roomOf room)) l).woken w3 := hd3
  rw [← hse] at hd3
  have hcs : s.CalmN 120 := hse ▸ hcal.woken
  have hdn : s.down = false := by rw [hse]; rfl
  have hfn : s.fn = 0 := by rw [hse]; rfl
  clear hd2
  go_wp2_with fail
  refine (sync_own hd3 (hcs.calm (by omega))).mono ?_
  rintro e w4 ⟨rfl, hd4⟩
  rw [sync_woken hdn hfn] at hd4 ⊢
  rw [show (((0, s.clean 0) : Nat × Dk).1 : Int) = 0 from rfl]
  obtain ⟨u, hu⟩ : ∃ u, u = s.clean 0 := ⟨_, rfl⟩
  replace hd4 : Own1 w g (s.clean 0) w4 := hd4
  rw [← hu] at hd4
  have hnu : u.Named := hu ▸ hnm.clean 0
  have hcu : u.CalmN 0 := hu ▸ (⟨hcs.k, hcs.t, Nat.zero_le _⟩ : (s.clean 0).CalmN 0)
  have hdu : u.down = false := by rw [hu]; exact hdn
  have hfu : u.fn = 0 := by rw [hu]; rfl
  have hau : u.acts.length = 0 := by rw [hu]; rfl
  clear hcs hdn hfn hse hcal h hu hd3 hnm
  go_wp2_with fail
  refine (clone_two hd4).mono ?_
  rintro e w5 ⟨g', rfl, h5⟩
  obtain ⟨K, hK⟩ : ∃ K, K = modOf 121 keep := ⟨_, rfl⟩
  have HK := hide HR.out
  rw [← hK] at HK r2
  have H5 := hide (show Two w w5 g u g' (u.cut K) from by rw [cut_all (by omega)]; exact h5)
  have HPL := hide (And.intro hcu (And.intro hdu (And.intro hfu hnu)))
  have hlen2 : len2 ≤ 120 := by
    unfold isShort at hs2
    simp only [Bool.and_eq_true, decide_eq_true_eq] at hs2
    have := HD2.out.len_
    omega
  have HS2 := hide hs2
  clear hd4 h5 hK hcu hdu hfu hau hnu hs2
  go_wp2_with fail
  rw [show wrap64 ((IntKind.u64.wrap keep).tmod 121) = (K : Int) from HK.out.symm]
  go_loopw [42] (fun i wr => ∃ (k : Nat) (sd : Dk), k ≤ len2 ∧ i = .int .i64 k ∧ sd.CalmN k ∧ sd.down = false ∧ sd.fn = 0 ∧ sd.Named ∧ Two w wr g sd g' (sd.cut K)) (fun i _ => len2 - (intOf i).toNat)
  case atStart => exact ⟨0, u, by omega, rfl, HPL.out.1, HPL.out.2.1, HPL.out.2.2.1, HPL.out.2.2.2, H5.out⟩
  case round =>
    obtain ⟨k, sd, hk, rfl, hcm, hdn, hfn, hnm, h6⟩ := hrel
    by_cases hkl : (k : Int) < (len2 : Int)
    · obtain ⟨a, o, rfl, hx⟩ := HD2.out.at_ (by omega)
      obtain ⟨x, hget⟩ : ∃ x, l2[k]? = some x := ⟨l2[k]'(by have := HD2.out.len_; omega), List.getElem?_eq_getElem _⟩
      obtain ⟨q, m, c, hr0⟩ := hx k x hget
      have HIS0 := hide hr0.is_
      have hr := hr0.chg (Chg.of_below h6.below (fun _ => False))
      clear hr0
      have c0 := hr.c0
      have c1 := hr.c1
      have c2 := hr.c2
      have c3 := hr.c3
      have c4 := hr.c4
      have c5 := hr.c5
      have c6 := hr.c6
      have c7 := hr.c7
      have hbl := isShort_b HS2.out hget
      obtain ⟨X, hX⟩ : ∃ X, X = wr.alloc (.cells (recC x q m c) 35) := ⟨_, rfl⟩
      have hcX : Chg wr X (fun _ => False) := hX ▸ chg_alloc _ _
      have h7 : TwoK w (fun i => i = wr.heap.size) X g sd g' (sd.cut K) := hX ▸ h6.boxed _
      have hbx : BoxAt X wr.heap.size x q m c := hX ▸ BoxAt.new wr x q m c
      have hisX := hr.is_.chg hcX
      have HIS := hide hisX
      have H7 := hide h7
      have HBX := hide hbx
      have HCM := hide (And.intro hcm (And.intro hdn (And.intro hfn hnm)))
      have HBL := hide hbl
      clear hr hx hget hcX h7 hbx hisX hcm hdn hfn hnm h6 hbl
      unfold recC at hX
      go_wp2_with fail
      rw [← hX]
      have hac := acts_any X x.op x.name x.to x.at_ q m c x.n x.keep x.tear
      unfold doV at hac
      refine hac.mono ?_
      rintro e X1 ⟨rfl, hc1⟩
      have h8 := H7.out.chg hc1
      have hb8 := HBX.out.chg hc1 fun h => h
      have his8 := HIS.out.chg hc1
      have H8 := hide h8
      have HB8 := hide hb8
      have HIS8 := hide his8
      clear hac hc1 h8 his8 hX c0 c1 c2 c3 c4 c5 c6 c7
      by_cases hkd : kind x.op < 6
      · rw [show decide (kind x.op < 6) = true from decide_eq_true hkd]
        have z0 := hb8.c0
        have z1 := hb8.c1
        have z2 := hb8.c2
        have z3 := hb8.c3
        have z4 := hb8.c4
        have z5 := hb8.c5
        have z6 := hb8.c6
        have z7 := hb8.c7
        have HACT := hide (step_act HCM.out.2.1 HCM.out.2.2.1 hkd)
        clear hb8 hkd
        go_wp2_with fail
        have hdo := does_two H8.out (HCM.out.1.calm (by omega)) HIS8.out (by have := HBL.out; omega)
        unfold doV at hdo
        refine hdo.mono ?_
        rintro e X2 ⟨rfl, h9, hc9⟩
        clear hdo z0 z1 z2 z3 z4 z5 z6 z7
        rcases HACT.out with ⟨r1, d, r2⟩ | ⟨r1, _, r2⟩
        · rw [r2] at h9 ⊢
          have h9' : TwoK w (fun i => i = wr.heap.size) X2 g (sd.act d) g' (sd.cut K) := h9
          rw [show (((0, sd.act d) : Nat × Dk).1 : Int) = 0 from rfl]
          have hb9 := HB8.out.chg hc9 (by simp)
          have his9 := HIS0.out.chg (Chg.of_below h9'.two.below (fun _ => False))
          have H9 := hide h9'
          have HACTN := hide (show (sd.act d).Named from by
            have h1 := HCM.out.2.2.2.step x
            rw [r2] at h1
            exact h1)
          have HB9 := hide hb9
          have HIS9 := hide his9
          clear h9 h9' hb9 his9 hc9 r1
          go_wp2_with fail
          refine (pending_two H9.out).mono ?_
          rintro e X3 ⟨rfl, rfl⟩
          obtain ⟨P, hP⟩ : ∃ P, P = (sd.act d).acts.length := ⟨_, rfl⟩
          rw [← hP]
          rw [act_len] at hP
          have hPi : (P : Int) ≤ 1000000 := by have := HCM.out.1.few; omega
          by_cases hPK : (P : Int) ≤ (K : Int)
          · have hcut : sd.cut K = sd := cut_all (by omega)
            have hcut2 : (sd.act d).cut K = sd.act d := cut_all (by rw [act_len]; omega)
            have HC := hide (And.intro hcut hcut2)
            have hb9 := HB9.out
            have z0 := hb9.c0
            have z1 := hb9.c1
            have z2 := hb9.c2
            have z3 := hb9.c3
            have z4 := hb9.c4
            have z5 := hb9.c5
            have z6 := hb9.c6
            have z7 := hb9.c7
            have HRR := hide r2
            clear hb9 hcut hcut2 hP r2
            go_wp2_with fail
            have h10 := H9.out.swap
            rw [HC.out.1] at h10
            have hdo := does_two h10 (HCM.out.1.calm (by omega)) HIS9.out (by have := HBL.out; omega)
            rw [HRR.out] at hdo
            unfold doV at hdo
            refine hdo.mono ?_
            rintro e X4 ⟨rfl, h11, _⟩
            rw [show (((0, sd.act d) : Nat × Dk).1 : Int) = 0 from rfl]
            have h12 : Two w X4 g (sd.act d) g' ((sd.act d).cut K) := by
              rw [HC.out.2]
              exact h11.two.swap
            have HT := hide h12
            clear hdo h10 h11 h12 z0 z1 z2 z3 z4 z5 z6 z7
            go_wp2
            all_goals
              first
              | go_roundw
                case rel => exact ⟨k + 1, sd.act d, by omega, by go_num, HCM.out.1.act d, HCM.out.2.1, by show sd.fn - 1 = 0; rw [HCM.out.2.2.1], HACTN.out, HT.out⟩
                case measure => simp [intOf]; omega
          · have h12 : Two w X2 g (sd.act d) g' ((sd.act d).cut K) := by
              rw [cut_act HCM.out.2.2.1 (by omega)]
              exact H9.out.two
            have HT := hide h12
            clear h12 hP r2
            go_wp2
            all_goals
              go_roundw
              case rel => exact ⟨k + 1, sd.act d, by omega, by go_num, HCM.out.1.act d, HCM.out.2.1, by show sd.fn - 1 = 0; rw [HCM.out.2.2.1], HACTN.out, HT.out⟩
              case measure => simp [intOf]; omega
        · have g1 : (((sd.step x).1 : Nat) : Int) ≠ 0 := by omega
          have g2 : (((sd.step x).1 : Int) == 0) = false := ieq_false g1
          rw [r2] at h9
          have HT := hide h9.two
          clear h9 hc9 r1 r2 g1
          go_wp2
          all_goals
            go_roundw
            case rel => exact ⟨k + 1, sd, by omega, by go_num, HCM.out.1.mono (by omega), HCM.out.2.1, HCM.out.2.2.1, HCM.out.2.2.2, HT.out⟩
            case measure => simp [intOf]; omega
      · rw [show decide (kind x.op < 6) = false from decide_eq_false hkd]
        have HT := hide H8.out.two
        clear hb8
        go_wp2
        exact ⟨⟨k + 1, sd, by omega, by go_num, HCM.out.1.mono (by omega), HCM.out.2.1, HCM.out.2.2.1, HCM.out.2.2.2, HT.out⟩, by simp [intOf]; omega⟩
    · have HCM := hide (And.intro hcm (And.intro hdn (And.intro hfn hnm)))
      clear hcm hdn hfn hnm
      have e1 : sd.crash K 0 = (0, sd.fall K 0) := by
        unfold Dk.crash
        rw [if_neg (by rw [HCM.out.2.1]; decide)]
      have E1 := hide e1
      clear e1
      go_wp2_with fail
      refine (h6.call fun _ _ hD => crash_call hD (keep := K) (tear := 0) (by omega) (by omega) (by omega) (by omega)).mono ?_
      rintro e w7 ⟨rfl, h7⟩
      rw [E1.out] at h7 ⊢
      rw [show (((0, sd.fall K 0) : Nat × Dk).1 : Int) = 0 from rfl]
      have h7' : Two w w7 g (sd.fall K 0) g' (sd.cut K) := h7
      have H7 := hide h7'
      clear h7 h7' h6
      go_wp2_with fail
      refine (H7.out.call fun _ _ hD => start_call hD).mono ?_
      rintro e w8 ⟨rfl, h8⟩
      rw [show ((0 : Nat) : Int) = 0 from rfl]
      have hsame := same_any h8.swap (HCM.out.2.2.2.cut K) HCM.out.2.1 (by
        show runs sd.last (sd.acts.take K) = runs (settleF sd.last sd.acts (min (max (K : Int) 0).toNat sd.acts.length) (max (0 : Int) 0).toNat) []
        rw [show (max (0 : Int) 0).toNat = 0 from rfl, settleF_zero _ _ (by omega)]
        show runs sd.last (sd.acts.take K) = runs sd.last (sd.acts.take (min (max (K : Int) 0).toNat sd.acts.length))
        rw [show (max (K : Int) 0).toNat = K by omega]
        by_cases hKl : K ≤ sd.acts.length
        · rw [Nat.min_eq_left hKl]
        · rw [Nat.min_eq_right (by omega), List.take_of_length_le (by omega), List.take_length])
      have HSM := hide hsame
      have H8 := hide h8
      clear hsame h8
      go_wp2_with fail
      refine HSM.out.mono ?_
      rintro e w11 ⟨rfl, hc11⟩
      have HB := hide (H8.out.chg hc11).below
      clear hc11
      go_wp2_with fail
      refine (awake_any w11).mono ?_
      rintro e w12 ⟨rfl, hb⟩
      go_wp2
      go_ret
      exact ⟨rfl, HB.out.trans (hb.mono HB.out.size)⟩
end Go.Proofs.Ythcakinkioniaab
