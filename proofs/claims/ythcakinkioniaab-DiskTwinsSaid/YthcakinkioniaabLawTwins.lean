/- A clone has all of the same, and goes its own way. -/
import Derived.Test.YthcakinkioniaabDFam
import Derived.Deep.RegionHeld3
namespace Go.Proofs.Ythcakinkioniaab
open Go.RowKit

theorem Four.below {w0 w : World} {g0 g1 g2 g3 : Nat} {s0 s1 s2 s3 : Dk} (h : Four w0 g0 s0 g1 s1 g2 s2 g3 s3 w) : Below w0.heap.size w0 w := Fam.below h
theorem Four.chg {w0 w w' : World} {g0 g1 g2 g3 : Nat} {s0 s1 s2 s3 : Dk} (h : Four w0 g0 s0 g1 s1 g2 s2 g3 s3 w) (hc : Chg w w' (fun _ => False)) : Four w0 g0 s0 g1 s1 g2 s2 g3 s3 w' := Fam.chg h hc
theorem pending_own {w0 w : World} {g : Nat} {st : Dk} (h : Own1 w0 g st w) : Calls Try.prog 17 #[.pointer (some ⟨g, 0, none⟩)] w fun e w' => e = .returned (.int .i64 (st.acts.length : Nat)) ∧ w = w' := by
  obtain ⟨S, C, h1, _⟩ := h
  exact pending_call h1

def Eight (W : World) (a o : Nat) (x : Rec) (q : Option Addr) (m c : Nat) : Prop := W.cell? ⟨a, o, none⟩ = some (.int .i64 x.op) ∧ W.cell? ⟨a, o + 1, none⟩ = some (.string x.name) ∧ W.cell? ⟨a, o + 2, none⟩ = some (.string x.to) ∧ W.cell? ⟨a, o + 3, none⟩ = some (.int .i64 x.at_) ∧ W.cell? ⟨a, o + 4, none⟩ = some (.slice q m c) ∧ W.cell? ⟨a, o + 5, none⟩ = some (.int .i64 x.n) ∧ W.cell? ⟨a, o + 6, none⟩ = some (.int .i64 x.keep) ∧ W.cell? ⟨a, o + 7, none⟩ = some (.int .i64 x.tear)
theorem Eight.of {W : World} {a o : Nat} {x : Rec} {q : Option Addr} {m c : Nat} (h : RecAt W a o x q m c) : Eight W a o x q m c := ⟨h.c0, h.c1, h.c2, h.c3, h.c4, h.c5, h.c6, h.c7⟩
theorem twin0 {w V : World} {a o : Nat} {x : Rec} {q : Option Addr} {m c k : Nat} (hr : RecAt w a o x q m c) {g0 g1 g2 g3 : Nat} {s0 s1 s2 s3 : Dk} (hq : s0.CalmN (120 + k)) (hk : k ≤ 120) (hb : x.b.length ≤ 32768) (h : Four w g0 s0 g1 s1 g2 s2 g3 s3 V) :
    Calls Try.prog 19 #[.pointer (some ⟨g0, 0, none⟩), .agg #[.int .i64 x.op, .string x.name, .string x.to, .int .i64 x.at_, .slice q m c, .int .i64 x.n, .int .i64 x.keep, .int .i64 x.tear]] V fun e w' => e = .returned (.int .i64 ((s0.step x).1 : Nat)) ∧ Four w g0 (s0.step x).2 g1 s1 g2 s2 g3 s3 w' ∧ Eight w' a o x q m c := by
  have hi := (hr.chg (Chg.of_below h.below (fun _ => False))).is_
  have hdo := h.call0 (fun S C hD => does_disk hD (hq.calm (by omega)) (op := x.op) (at_ := x.at_) (b := x.b) (n := x.n) (keep := x.keep) (tear := x.tear) hi.h1 hi.h2 hi.h3 hi.hb (by omega) hi.h4 hi.h5 hi.h6)
  unfold doV at hdo
  refine hdo.mono ?_
  rintro e w' ⟨he, hf⟩
  exact ⟨he, hf, Eight.of (hr.chg (Chg.of_below hf.below (fun _ => False)))⟩
theorem twin1 {w V : World} {a o : Nat} {x : Rec} {q : Option Addr} {m c k : Nat} (hr : RecAt w a o x q m c) {g0 g1 g2 g3 : Nat} {s0 s1 s2 s3 : Dk} (hq : s1.CalmN (120 + k)) (hk : k ≤ 120) (hb : x.b.length ≤ 32768) (h : Four w g0 s0 g1 s1 g2 s2 g3 s3 V) :
    Calls Try.prog 19 #[.pointer (some ⟨g1, 0, none⟩), .agg #[.int .i64 x.op, .string x.name, .string x.to, .int .i64 x.at_, .slice q m c, .int .i64 x.n, .int .i64 x.keep, .int .i64 x.tear]] V fun e w' => e = .returned (.int .i64 ((s1.step x).1 : Nat)) ∧ Four w g0 s0 g1 (s1.step x).2 g2 s2 g3 s3 w' ∧ Eight w' a o x q m c := by
  have hi := (hr.chg (Chg.of_below h.below (fun _ => False))).is_
  have hdo := h.call1 (fun S C hD => does_disk hD (hq.calm (by omega)) (op := x.op) (at_ := x.at_) (b := x.b) (n := x.n) (keep := x.keep) (tear := x.tear) hi.h1 hi.h2 hi.h3 hi.hb (by omega) hi.h4 hi.h5 hi.h6)
  unfold doV at hdo
  refine hdo.mono ?_
  rintro e w' ⟨he, hf⟩
  exact ⟨he, hf, Eight.of (hr.chg (Chg.of_below hf.below (fun _ => False)))⟩
theorem twin2 {w V : World} {a o : Nat} {x : Rec} {q : Option Addr} {m c k : Nat} (hr : RecAt w a o x q m c) {g0 g1 g2 g3 : Nat} {s0 s1 s2 s3 : Dk} (hq : s2.CalmN (120 + k)) (hk : k ≤ 120) (hb : x.b.length ≤ 32768) (h : Four w g0 s0 g1 s1 g2 s2 g3 s3 V) :
    Calls Try.prog 19 #[.pointer (some ⟨g2, 0, none⟩), .agg #[.int .i64 x.op, .string x.name, .string x.to, .int .i64 x.at_, .slice q m c, .int .i64 x.n, .int .i64 x.keep, .int .i64 x.tear]] V fun e w' => e = .returned (.int .i64 ((s2.step x).1 : Nat)) ∧ Four w g0 s0 g1 s1 g2 (s2.step x).2 g3 s3 w' ∧ Eight w' a o x q m c := by
  have hi := (hr.chg (Chg.of_below h.below (fun _ => False))).is_
  have hdo := h.call2 (fun S C hD => does_disk hD (hq.calm (by omega)) (op := x.op) (at_ := x.at_) (b := x.b) (n := x.n) (keep := x.keep) (tear := x.tear) hi.h1 hi.h2 hi.h3 hi.hb (by omega) hi.h4 hi.h5 hi.h6)
  unfold doV at hdo
  refine hdo.mono ?_
  rintro e w' ⟨he, hf⟩
  exact ⟨he, hf, Eight.of (hr.chg (Chg.of_below hf.below (fun _ => False)))⟩
theorem twin3 {w V : World} {a o : Nat} {x : Rec} {q : Option Addr} {m c k : Nat} (hr : RecAt w a o x q m c) {g0 g1 g2 g3 : Nat} {s0 s1 s2 s3 : Dk} (hq : s3.CalmN (120 + k)) (hk : k ≤ 120) (hb : x.b.length ≤ 32768) (h : Four w g0 s0 g1 s1 g2 s2 g3 s3 V) :
    Calls Try.prog 19 #[.pointer (some ⟨g3, 0, none⟩), .agg #[.int .i64 x.op, .string x.name, .string x.to, .int .i64 x.at_, .slice q m c, .int .i64 x.n, .int .i64 x.keep, .int .i64 x.tear]] V fun e w' => e = .returned (.int .i64 ((s3.step x).1 : Nat)) ∧ Four w g0 s0 g1 s1 g2 s2 g3 (s3.step x).2 w' ∧ Eight w' a o x q m c := by
  have hi := (hr.chg (Chg.of_below h.below (fun _ => False))).is_
  have hdo := h.call3 (fun S C hD => does_disk hD (hq.calm (by omega)) (op := x.op) (at_ := x.at_) (b := x.b) (n := x.n) (keep := x.keep) (tear := x.tear) hi.h1 hi.h2 hi.h3 hi.hb (by omega) hi.h4 hi.h5 hi.h6)
  unfold doV at hdo
  refine hdo.mono ?_
  rintro e w' ⟨he, hf⟩
  exact ⟨he, hf, Eight.of (hr.chg (Chg.of_below hf.below (fun _ => False)))⟩

set_option maxRecDepth 200000 in
set_option maxHeartbeats 40000000 in
set_option linter.unusedSimpArgs false in
theorem twins_any {w : World} {room : Int} {p : Option Addr} {len cap : Nat} {l : List Rec} (h : Dos w p len cap l) {p1 : Option Addr} {len1 cap1 : Nat} {l1 : List Rec} (h1 : Dos w p1 len1 cap1 l1) {p2 : Option Addr} {len2 cap2 : Nat} {l2 : List Rec} (h2 : Dos w p2 len2 cap2 l2) :
    Calls Try.prog 3 #[.int .i64 room, .slice p len cap, .slice p1 len1 cap1, .slice p2 len2 cap2] w fun e w' => e = .returned (.bool true) ∧ Below w.heap.size w w' := by
  have HM := hide (made_lawC (room := room) h)
  have HL := hide h
  have HL1 := hide h1
  have HL2 := hide h2
  have hcap1 := h1.cap_
  have hmax1 := h1.max_
  have hcap2 := h2.cap_
  have hmax2 := h2.max_
  unfold maxLen at hmax1 hmax2
  clear h h1 h2
  go_enter Try.func3, Try.ntmps3
  go_wp2_with fail
  refine HM.out.mono ?_
  rintro e w1 ⟨g, rfl, hd⟩
  rcases hs : isShort l with _ | _
  · have HB := hide hd.below
    clear hd
    go_wp2_with fail
    refine (awake_any w1).mono ?_
    rintro e wz ⟨rfl, hb⟩
    go_wp2
    go_ret
    exact ⟨rfl, HB.out.trans (hb.mono HB.out.size)⟩
  rw [if_pos hs] at hd
  go_wp2_with fail
  refine (short_any (HL1.out.chg (Chg.of_below hd.below _))).mono ?_
  rintro e w2 ⟨rfl, hc2⟩
  have hd := hd.chg hc2
  clear hc2
  rcases hs1 : isShort l1 with _ | _
  · have HB := hide hd.below
    clear hd
    go_wp2_with fail
    refine (awake_any w2).mono ?_
    rintro e wz ⟨rfl, hb⟩
    go_wp2
    go_ret
    exact ⟨rfl, HB.out.trans (hb.mono HB.out.size)⟩
  go_wp2_with fail
  refine (short_any (HL2.out.chg (Chg.of_below hd.below _))).mono ?_
  rintro e w3 ⟨rfl, hc3⟩
  have hd := hd.chg hc3
  clear hc3
  rcases hs2 : isShort l2 with _ | _
  · have HB := hide hd.below
    clear hd
    go_wp2_with fail
    refine (awake_any w3).mono ?_
    rintro e wz ⟨rfl, hb⟩
    go_wp2
    go_ret
    exact ⟨rfl, HB.out.trans (hb.mono HB.out.size)⟩
  have hlen1 : len1 ≤ 120 := by
    unfold isShort at hs1
    simp only [Bool.and_eq_true, decide_eq_true_eq] at hs1
    have := HL1.out.len_
    omega
  have hlen2 : len2 ≤ 120 := by
    unfold isShort at hs2
    simp only [Bool.and_eq_true, decide_eq_true_eq] at hs2
    have := HL2.out.len_
    omega
  have HS := hide hs
  have HS1 := hide hs1
  have HS2 := hide hs2
  have hcal := made_calm HL.out hs (roomOf room)
  obtain ⟨st, hst⟩ : ∃ st, st = plays (Dk.new (roomOf room)) l := ⟨_, rfl⟩
  rw [← hst] at hd hcal
  have hnm : st.Named := hst ▸ plays_named (new_named _) l
  have HST := hide hst
  have HCV := hide (And.intro hcal hnm)
  clear hs hs1 hs2 hst hcal hnm
  go_wp2_with fail
  refine (clone_two (w0 := w) (by obtain ⟨S, C, k1, k2, k3, k4⟩ := hd; exact ⟨S, C, k1, k2, k4⟩)).mono ?_
  rintro e w4 ⟨g', rfl, h4⟩
  have hf4 := h4.fam
  have HF4 := hide hf4
  clear hd h4 hf4
  go_wp2_with fail
  refine (made_lawC (room := room) (HL.out.chg (Chg.of_below HF4.out.below _))).mono ?_
  rintro e w5 ⟨ge, rfl, he5⟩
  rw [if_pos HS.out, ← HST.out] at he5
  have HF5 := hide (HF4.out.add he5)
  clear he5
  go_wp2_with fail
  refine (made_lawC (room := room) (HL.out.chg (Chg.of_below HF5.out.below _))).mono ?_
  rintro e w6 ⟨gf, rfl, he6⟩
  rw [if_pos HS.out, ← HST.out] at he6
  have HF6 := hide (HF5.out.add he6).four
  clear he6
  have hsame := same_any (Fam.two HF6.out (j := 1) (k := 0) (by omega) (by omega) (by omega)) HCV.out.2 rfl rfl
  have HSM := hide hsame
  clear hsame
  go_wp2_with fail
  refine HSM.out.mono ?_
  rintro e w7 ⟨rfl, hc7⟩
  have HF7 := hide (HF6.out.chg hc7)
  clear hc7
  obtain ⟨P, hP⟩ : ∃ P, P = st.acts.length := ⟨_, rfl⟩
  have hPi : (P : Int) ≤ 120 := by have := HCV.out.1.few; omega
  obtain ⟨U, hU⟩ : ∃ U, U = st.usedN := ⟨_, rfl⟩
  have HPU := hide (And.intro hP hU)
  clear hP hU
  go_wp2_with fail
  refine (pending_own (Fam.one HF7.out (j := 1) (by omega))).mono ?_
  rintro e w8 ⟨rfl, rfl⟩
  rw [show (((sel st st st st 1).acts.length : Nat) : Int) = (P : Int) from by rw [HPU.out.1]; rfl]
  go_wp2_with fail
  refine (pending_own (Fam.one HF7.out (j := 0) (by omega))).mono ?_
  rintro e w8 ⟨rfl, rfl⟩
  rw [show (((sel st st st st 0).acts.length : Nat) : Int) = (P : Int) from by rw [HPU.out.1]; rfl]
  go_wp2_with fail
  refine (used_own (Fam.one HF7.out (j := 1) (by omega))).mono ?_
  rintro e w8 ⟨rfl, rfl⟩
  rw [show (((sel st st st st 1).usedN : Nat) : Int) = (U : Int) from by rw [HPU.out.2]; rfl]
  go_wp2_with fail
  refine (used_own (Fam.one HF7.out (j := 0) (by omega))).mono ?_
  rintro e w8 ⟨rfl, rfl⟩
  rw [show (((sel st st st st 0).usedN : Nat) : Int) = (U : Int) from by rw [HPU.out.2]; rfl]
  go_wp2_with fail
  have hmx : ((max (len1 : Int) (len2 : Int)) = ((max len1 len2 : Nat) : Int)) := by omega
  rw [hmx]
  obtain ⟨M, hM⟩ : ∃ M, M = max len1 len2 := ⟨_, rfl⟩
  rw [← hM]
  clear hmx
  have hM1 : M ≤ 120 := by omega
  have HMM := hide hM
  clear hM
  go_loopw [73] (fun i wr => ∃ (k : Nat) (sc sd : Dk), k ≤ M ∧ i = .int .i64 k ∧ sc.CalmN (120 + k) ∧ sc.Named ∧ sd.CalmN (120 + k) ∧ sd.Named ∧ Four w g sd g' sc ge sc gf sd wr) (fun i _ => M - (intOf i).toNat)
  case atStart => exact ⟨0, st, st, by omega, rfl, HCV.out.1, HCV.out.2, HCV.out.1, HCV.out.2, HF7.out⟩
  case round =>
    obtain ⟨k, sc, sd, hk, rfl, hcc, hcn, hdc, hdn, hown⟩ := hrel
    have hki : (k : Int) ≤ 120 := by omega
    have HF := hide hown
    have HC := hide (And.intro hcc (And.intro hcn (And.intro hdc hdn)))
    clear hcc hcn hdc hdn hown
    by_cases hkl : (k : Int) < (M : Int)
    · by_cases hk1 : (k : Int) < (len1 : Int)
      · by_cases hk2 : (k : Int) < (len2 : Int)
        · obtain ⟨x1, hget1⟩ : ∃ x, l1[k]? = some x := ⟨l1[k]'(by have := HL1.out.len_; omega), List.getElem?_eq_getElem _⟩
          obtain ⟨a1, o1, rfl, hx1⟩ := HL1.out.at_ (by omega)
          obtain ⟨q1, m1, c1, hr1⟩ := hx1 k x1 hget1
          have HB1 := hide (isShort_b HS1.out hget1)
          have HR1 := hide hr1
          have he1 : Eight wr a1 (o1 + k * 8) x1 q1 m1 c1 := Eight.of (hr1.chg (Chg.of_below HF.out.below (fun _ => False)))
          have HE1 := hide (fun V (hV : Four w g sd g' sc ge sc gf sd V) => (Eight.of (hr1.chg (Chg.of_below hV.below (fun _ => False))) : Eight V a1 (o1 + k * 8) x1 q1 m1 c1))
          clear hx1 hr1 hget1
          obtain ⟨x2, hget2⟩ : ∃ x, l2[k]? = some x := ⟨l2[k]'(by have := HL2.out.len_; omega), List.getElem?_eq_getElem _⟩
          obtain ⟨a2, o2, rfl, hx2⟩ := HL2.out.at_ (by omega)
          obtain ⟨q2, m2, c2, hr2⟩ := hx2 k x2 hget2
          have HB2 := hide (isShort_b HS2.out hget2)
          have HR2 := hide hr2
          have he2 : Eight wr a2 (o2 + k * 8) x2 q2 m2 c2 := Eight.of (hr2.chg (Chg.of_below HF.out.below (fun _ => False)))
          have HE2 := hide (fun V (hV : Four w g sd g' sc ge sc gf sd V) => (Eight.of (hr2.chg (Chg.of_below hV.below (fun _ => False))) : Eight V a2 (o2 + k * 8) x2 q2 m2 c2))
          clear hx2 hr2 hget2
          obtain ⟨r1, hr1⟩ : ∃ r, r = (sc.step x1).1 := ⟨_, rfl⟩
          obtain ⟨r2, hr2⟩ : ∃ r, r = (sd.step x2).1 := ⟨_, rfl⟩
          have HT1 := hide (fun V (hV : ∃ q, V = wr.drewN q) => (by
            obtain ⟨q, rfl⟩ := hV
            have h := twin1 HR1.out HC.out.1 (by omega) HB1.out (HF.out.chg ((Chg.refl wr _).drewN q))
            rw [← hr1] at h
            exact h.mono fun e w' hh => ⟨hh.1, hh.2.1, hh.2.2, Eight.of (HR2.out.chg (Chg.of_below hh.2.1.below (fun _ => False)))⟩ : Calls Try.prog 19 #[.pointer (some ⟨g', 0, none⟩), .agg #[.int .i64 x1.op, .string x1.name, .string x1.to, .int .i64 x1.at_, .slice q1 m1 c1, .int .i64 x1.n, .int .i64 x1.keep, .int .i64 x1.tear]] V fun e w' => e = .returned (.int .i64 (r1 : Nat)) ∧ Four w g sd g' (sc.step x1).2 ge sc gf sd w' ∧ Eight w' a1 (o1 + k * 8) x1 q1 m1 c1 ∧ Eight w' a2 (o2 + k * 8) x2 q2 m2 c2))
          have HT2 := hide (fun V (hV : Four w g sd g' (sc.step x1).2 ge sc gf sd V) => (by
            have h := twin2 HR1.out HC.out.1 (by omega) HB1.out hV
            rw [← hr1] at h
            exact h.mono fun e w' hh => ⟨hh.1, hh.2.1, hh.2.2, Eight.of (HR2.out.chg (Chg.of_below hh.2.1.below (fun _ => False)))⟩ : Calls Try.prog 19 #[.pointer (some ⟨ge, 0, none⟩), .agg #[.int .i64 x1.op, .string x1.name, .string x1.to, .int .i64 x1.at_, .slice q1 m1 c1, .int .i64 x1.n, .int .i64 x1.keep, .int .i64 x1.tear]] V fun e w' => e = .returned (.int .i64 (r1 : Nat)) ∧ Four w g sd g' (sc.step x1).2 ge (sc.step x1).2 gf sd w' ∧ Eight w' a1 (o1 + k * 8) x1 q1 m1 c1 ∧ Eight w' a2 (o2 + k * 8) x2 q2 m2 c2))
          have HT3 := hide (fun V (hV : Four w g sd g' (sc.step x1).2 ge (sc.step x1).2 gf sd V) => (by
            have h := twin0 HR2.out HC.out.2.2.1 (by omega) HB2.out hV
            rw [← hr2] at h
            exact h.mono fun e w' hh => ⟨hh.1, hh.2.1, Eight.of (HR1.out.chg (Chg.of_below hh.2.1.below (fun _ => False))), hh.2.2⟩ : Calls Try.prog 19 #[.pointer (some ⟨g, 0, none⟩), .agg #[.int .i64 x2.op, .string x2.name, .string x2.to, .int .i64 x2.at_, .slice q2 m2 c2, .int .i64 x2.n, .int .i64 x2.keep, .int .i64 x2.tear]] V fun e w' => e = .returned (.int .i64 (r2 : Nat)) ∧ Four w g (sd.step x2).2 g' (sc.step x1).2 ge (sc.step x1).2 gf sd w' ∧ Eight w' a1 (o1 + k * 8) x1 q1 m1 c1 ∧ Eight w' a2 (o2 + k * 8) x2 q2 m2 c2))
          have HT4 := hide (fun V (hV : Four w g (sd.step x2).2 g' (sc.step x1).2 ge (sc.step x1).2 gf sd V) => (by
            have h := twin3 HR2.out HC.out.2.2.1 (by omega) HB2.out hV
            rw [← hr2] at h
            exact h.mono fun e w' hh => ⟨hh.1, hh.2.1, Eight.of (HR1.out.chg (Chg.of_below hh.2.1.below (fun _ => False))), hh.2.2⟩ : Calls Try.prog 19 #[.pointer (some ⟨gf, 0, none⟩), .agg #[.int .i64 x2.op, .string x2.name, .string x2.to, .int .i64 x2.at_, .slice q2 m2 c2, .int .i64 x2.n, .int .i64 x2.keep, .int .i64 x2.tear]] V fun e w' => e = .returned (.int .i64 (r2 : Nat)) ∧ Four w g (sd.step x2).2 g' (sc.step x1).2 ge (sc.step x1).2 gf (sd.step x2).2 w' ∧ Eight w' a1 (o1 + k * 8) x1 q1 m1 c1 ∧ Eight w' a2 (o2 + k * 8) x2 q2 m2 c2))
          have HNX := hide (And.intro (HC.out.1.step x1 HR1.out.is_.h5 HR1.out.is_.h6) (And.intro (HC.out.2.1.step x1) (And.intro (HC.out.2.2.1.step x2 HR2.out.is_.h5 HR2.out.is_.h6) (HC.out.2.2.2.step x2))))
          clear hr1 hr2
          have z1 : Eight wr.drew a1 (o1 + k * 8) x1 q1 m1 c1 := he1
          have z2 : Eight wr.drew a2 (o2 + k * 8) x2 q2 m2 c2 := he2
          clear he1 he2
          go_wp2_with fail
          go_region_held3 (fun W => (W.cell? ⟨a1, o1 + k * 8, none⟩ = some (.int .i64 x1.op) ∧ W.cell? ⟨a1, o1 + k * 8 + 1, none⟩ = some (.string x1.name) ∧ W.cell? ⟨a1, o1 + k * 8 + 2, none⟩ = some (.string x1.to) ∧ W.cell? ⟨a1, o1 + k * 8 + 3, none⟩ = some (.int .i64 x1.at_) ∧ W.cell? ⟨a1, o1 + k * 8 + 4, none⟩ = some (.slice q1 m1 c1) ∧ W.cell? ⟨a1, o1 + k * 8 + 5, none⟩ = some (.int .i64 x1.n) ∧ W.cell? ⟨a1, o1 + k * 8 + 6, none⟩ = some (.int .i64 x1.keep) ∧ W.cell? ⟨a1, o1 + k * 8 + 7, none⟩ = some (.int .i64 x1.tear)) ∧ W.cell? ⟨a2, o2 + k * 8, none⟩ = some (.int .i64 x2.op) ∧ W.cell? ⟨a2, o2 + k * 8 + 1, none⟩ = some (.string x2.name) ∧ W.cell? ⟨a2, o2 + k * 8 + 2, none⟩ = some (.string x2.to) ∧ W.cell? ⟨a2, o2 + k * 8 + 3, none⟩ = some (.int .i64 x2.at_) ∧ W.cell? ⟨a2, o2 + k * 8 + 4, none⟩ = some (.slice q2 m2 c2) ∧ W.cell? ⟨a2, o2 + k * 8 + 5, none⟩ = some (.int .i64 x2.n) ∧ W.cell? ⟨a2, o2 + k * 8 + 6, none⟩ = some (.int .i64 x2.keep) ∧ W.cell? ⟨a2, o2 + k * 8 + 7, none⟩ = some (.int .i64 x2.tear)) (first | exact ⟨z1, z2⟩ | exact ⟨z3, z4⟩ | exact ⟨z5, z6⟩ | exact ⟨z7, z8⟩ | exact ⟨z9, z10⟩) (first
            | (go_at_call 19; with_reducible show Calls _ _ #[Value.pointer (some ⟨g', 0, none⟩), _] _ _; refine (HT1.out _ (by first | exact ⟨_, rfl⟩ | exact ⟨0, rfl⟩ | exact ⟨1, rfl⟩)).mono ?_; rintro e v1 ⟨rfl, f1, z3, z4⟩)
            | (go_at_call 19; with_reducible show Calls _ _ #[Value.pointer (some ⟨ge, 0, none⟩), _] _ _; refine (HT2.out _ f1).mono ?_; rintro e v2 ⟨rfl, f2, z5, z6⟩)
            | (go_at_call 19; with_reducible show Calls _ _ #[Value.pointer (some ⟨g, 0, none⟩), _] _ _; refine (HT3.out _ f2).mono ?_; rintro e v3 ⟨rfl, f3, z7, z8⟩)
            | (go_at_call 19; with_reducible show Calls _ _ #[Value.pointer (some ⟨gf, 0, none⟩), _] _ _; refine (HT4.out _ f3).mono ?_; rintro e v4 ⟨rfl, f4, z9, z10⟩))
          all_goals
            go_wp2
            go_roundw
            case rel => exact ⟨k + 1, (sc.step x1).2, (sd.step x2).2, by omega, by go_num, HNX.out.1, HNX.out.2.1, HNX.out.2.2.1, HNX.out.2.2.2, f4⟩
            case measure => simp [intOf]; omega
        · obtain ⟨x1, hget1⟩ : ∃ x, l1[k]? = some x := ⟨l1[k]'(by have := HL1.out.len_; omega), List.getElem?_eq_getElem _⟩
          obtain ⟨a1, o1, rfl, hx1⟩ := HL1.out.at_ (by omega)
          obtain ⟨q1, m1, c1, hr1⟩ := hx1 k x1 hget1
          have HB1 := hide (isShort_b HS1.out hget1)
          have HR1 := hide hr1
          have he1 : Eight wr a1 (o1 + k * 8) x1 q1 m1 c1 := Eight.of (hr1.chg (Chg.of_below HF.out.below (fun _ => False)))
          have HE1 := hide (fun V (hV : Four w g sd g' sc ge sc gf sd V) => (Eight.of (hr1.chg (Chg.of_below hV.below (fun _ => False))) : Eight V a1 (o1 + k * 8) x1 q1 m1 c1))
          clear hx1 hr1 hget1
          obtain ⟨r1, hr1⟩ : ∃ r, r = (sc.step x1).1 := ⟨_, rfl⟩
          have HT1 := hide (fun V (hV : ∃ q, V = wr.drewN q) => (by
            obtain ⟨q, rfl⟩ := hV
            have h := twin1 HR1.out HC.out.1 (by omega) HB1.out (HF.out.chg ((Chg.refl wr _).drewN q))
            rw [← hr1] at h
            exact h : Calls Try.prog 19 #[.pointer (some ⟨g', 0, none⟩), .agg #[.int .i64 x1.op, .string x1.name, .string x1.to, .int .i64 x1.at_, .slice q1 m1 c1, .int .i64 x1.n, .int .i64 x1.keep, .int .i64 x1.tear]] V fun e w' => e = .returned (.int .i64 (r1 : Nat)) ∧ Four w g sd g' (sc.step x1).2 ge sc gf sd w' ∧ Eight w' a1 (o1 + k * 8) x1 q1 m1 c1))
          have HT2 := hide (fun V (hV : Four w g sd g' (sc.step x1).2 ge sc gf sd V) => (by
            have h := twin2 HR1.out HC.out.1 (by omega) HB1.out hV
            rw [← hr1] at h
            exact h : Calls Try.prog 19 #[.pointer (some ⟨ge, 0, none⟩), .agg #[.int .i64 x1.op, .string x1.name, .string x1.to, .int .i64 x1.at_, .slice q1 m1 c1, .int .i64 x1.n, .int .i64 x1.keep, .int .i64 x1.tear]] V fun e w' => e = .returned (.int .i64 (r1 : Nat)) ∧ Four w g sd g' (sc.step x1).2 ge (sc.step x1).2 gf sd w' ∧ Eight w' a1 (o1 + k * 8) x1 q1 m1 c1))
          have HNX := hide (And.intro (HC.out.1.step x1 HR1.out.is_.h5 HR1.out.is_.h6) (And.intro (HC.out.2.1.step x1) (And.intro (HC.out.2.2.1.mono (j := 120 + (k + 1)) (by omega)) HC.out.2.2.2)))
          have HDEC2 := hide (show decide ((k : Int) < (len2 : Int)) = false from decide_eq_false hk2)
          clear hr1
          have z1 : Eight wr.drew a1 (o1 + k * 8) x1 q1 m1 c1 := he1
          clear he1
          go_wp2_with fail
          refine wp_region_held_drew (S := fun W => W.cell? ⟨a1, o1 + k * 8, none⟩ = some (.int .i64 x1.op) ∧ W.cell? ⟨a1, o1 + k * 8 + 1, none⟩ = some (.string x1.name) ∧ W.cell? ⟨a1, o1 + k * 8 + 2, none⟩ = some (.string x1.to) ∧ W.cell? ⟨a1, o1 + k * 8 + 3, none⟩ = some (.int .i64 x1.at_) ∧ W.cell? ⟨a1, o1 + k * 8 + 4, none⟩ = some (.slice q1 m1 c1) ∧ W.cell? ⟨a1, o1 + k * 8 + 5, none⟩ = some (.int .i64 x1.n) ∧ W.cell? ⟨a1, o1 + k * 8 + 6, none⟩ = some (.int .i64 x1.keep) ∧ W.cell? ⟨a1, o1 + k * 8 + 7, none⟩ = some (.int .i64 x1.tear)) (by kernel_rfl) ?_ (fun hHeld => ?_)
          · exact z1
          refine wpAnyH_take (i := 0) (oi := { dst := some 76, op := Op.move (Operand.tmp 16), type := 3, pos := "law.go:179", after := #[], guard := none }) (v := ?_) rfl (by kernel_rfl) (by kernel_rfl) (by kernel_rfl) (fun _ _ _ h => h) (Or.inl ⟨by rfl, ?_⟩) (by assumption) ?_
          rotate_left
          · intro w hSw
            (try dsimp only at hSw)
            go_simp
            try with_reducible rfl
          try simp only [Act.put, List.setIfInBounds_toArray, List.set_cons_zero, List.set_cons_succ]
          refine wpAnyH_take (i := 1) (oi := { dst := some 77, op := Op.move (Operand.tmp 2), type := 22, pos := "law.go:179", after := #[], guard := none }) (v := ?_) rfl (by kernel_rfl) (by kernel_rfl) (by kernel_rfl) (fun _ _ _ h => h) (Or.inl ⟨by rfl, ?_⟩) (by assumption) ?_
          rotate_left
          · intro w hSw
            (try dsimp only at hSw)
            go_simp
            try with_reducible rfl
          try simp only [Act.put, List.setIfInBounds_toArray, List.set_cons_zero, List.set_cons_succ]
          refine wpAnyH_take (i := 2) (oi := { dst := some 78, op := Op.call { callee := Callee.builtin Builtin.len, args := #[Operand.tmp 77], argTypes := #[22] }, type := 3, pos := "law.go:179", after := #[{ on := 1, ground := Ground.data }], guard := none }) (v := ?_) rfl (by kernel_rfl) (by kernel_rfl) (by kernel_rfl) (fun _ _ _ h => h) (Or.inl ⟨by rfl, ?_⟩) (by assumption) ?_
          rotate_left
          · intro w hSw
            (try dsimp only at hSw)
            go_simp
            try with_reducible rfl
          try simp only [Act.put, List.setIfInBounds_toArray, List.set_cons_zero, List.set_cons_succ]
          refine wpAnyH_take (i := 3) (oi := { dst := some 79, op := Op.binOp BinOp.lss 3 (Operand.tmp 76) (Operand.tmp 78) 3, type := 4, pos := "law.go:179", after := #[{ on := 0, ground := Ground.data }, { on := 2, ground := Ground.data }], guard := none }) (v := ?_) rfl (by kernel_rfl) (by kernel_rfl) (by kernel_rfl) (fun _ _ _ h => h) (Or.inl ⟨by rfl, ?_⟩) (by assumption) ?_
          rotate_left
          · intro w hSw
            (try dsimp only at hSw)
            go_simp
            try with_reducible rfl
          try simp only [Act.put, List.setIfInBounds_toArray, List.set_cons_zero, List.set_cons_succ]
          refine wpAnyH_take (i := 4) (oi := { dst := some 80, op := Op.move (Operand.tmp 79), type := 4, pos := "law.go:179", after := #[{ on := 3, ground := Ground.data }], guard := none }) (v := ?_) rfl (by kernel_rfl) (by kernel_rfl) (by kernel_rfl) (fun _ _ _ h => h) (Or.inl ⟨by rfl, ?_⟩) (by assumption) ?_
          rotate_left
          · intro w hSw
            (try dsimp only at hSw)
            go_simp
            try with_reducible rfl
          try simp only [Act.put, List.setIfInBounds_toArray, List.set_cons_zero, List.set_cons_succ]
          refine wpAnyH_take (i := 5) (oi := { dst := some 81, op := Op.move (Operand.tmp 11), type := 23, pos := "law.go:179", after := #[{ on := 4, ground := Ground.guard }], guard := some (4, true) }) (v := ?_) rfl (by kernel_rfl) (by kernel_rfl) (by kernel_rfl) (fun _ _ _ h => h) (Or.inl ⟨by rfl, ?_⟩) (by assumption) ?_
          rotate_left
          · intro w hSw
            (try dsimp only at hSw)
            go_simp
            try with_reducible rfl
          try simp only [Act.put, List.setIfInBounds_toArray, List.set_cons_zero, List.set_cons_succ]
          refine wpAnyH_take (i := 6) (oi := { dst := some 82, op := Op.move (Operand.tmp 2), type := 22, pos := "law.go:179", after := #[{ on := 4, ground := Ground.guard }], guard := some (4, true) }) (v := ?_) rfl (by kernel_rfl) (by kernel_rfl) (by kernel_rfl) (fun _ _ _ h => h) (Or.inl ⟨by rfl, ?_⟩) (by assumption) ?_
          rotate_left
          · intro w hSw
            (try dsimp only at hSw)
            go_simp
            try with_reducible rfl
          try simp only [Act.put, List.setIfInBounds_toArray, List.set_cons_zero, List.set_cons_succ]
          refine wpAnyH_take (i := 7) (oi := { dst := some 83, op := Op.move (Operand.tmp 16), type := 3, pos := "law.go:179", after := #[{ on := 4, ground := Ground.guard }], guard := some (4, true) }) (v := ?_) rfl (by kernel_rfl) (by kernel_rfl) (by kernel_rfl) (fun _ _ _ h => h) (Or.inl ⟨by rfl, ?_⟩) (by assumption) ?_
          rotate_left
          · intro w hSw
            (try dsimp only at hSw)
            go_simp
            try with_reducible rfl
          try simp only [Act.put, List.setIfInBounds_toArray, List.set_cons_zero, List.set_cons_succ]
          refine wpAnyH_take (i := 8) (oi := { dst := some 84, op := Op.indexAddr 22 (Operand.tmp 82) (Operand.tmp 83), type := 0, pos := "law.go:179", after := #[{ on := 6, ground := Ground.data }, { on := 7, ground := Ground.data }, { on := 4, ground := Ground.guard }], guard := some (4, true) }) (v := ?_) rfl (by kernel_rfl) (by kernel_rfl) (by kernel_rfl) (fun _ _ _ h => h) (Or.inl ⟨by rfl, ?_⟩) (by assumption) ?_
          rotate_left
          · intro w hSw
            (try dsimp only at hSw)
            go_simp
            try with_reducible rfl
          try simp only [Act.put, List.setIfInBounds_toArray, List.set_cons_zero, List.set_cons_succ]
          refine wpAnyH_take (i := 9) (oi := { dst := some 85, op := Op.load 35 (Operand.tmp 84), type := 35, pos := "law.go:179", after := #[{ on := 8, ground := Ground.data }, { on := 4, ground := Ground.guard }], guard := some (4, true) }) (v := ?_) rfl (by kernel_rfl) (by kernel_rfl) (by kernel_rfl) (fun _ _ _ h => h) (Or.inl ⟨by rfl, ?_⟩) (by assumption) ?_
          rotate_left
          · intro w hSw
            (try dsimp only at hSw)
            go_simp
            try with_reducible rfl
          try simp only [Act.put, List.setIfInBounds_toArray, List.set_cons_zero, List.set_cons_succ]
          refine wpAnyH_take (i := 11) (oi := { dst := some 87, op := Op.move (Operand.tmp 12), type := 23, pos := "law.go:179", after := #[{ on := 4, ground := Ground.guard }], guard := some (4, true) }) (v := ?_) rfl (by kernel_rfl) (by kernel_rfl) (by kernel_rfl) (fun _ _ _ h => h) (Or.inl ⟨by rfl, ?_⟩) (by assumption) ?_
          rotate_left
          · intro w hSw
            (try dsimp only at hSw)
            go_simp
            try with_reducible rfl
          try simp only [Act.put, List.setIfInBounds_toArray, List.set_cons_zero, List.set_cons_succ]
          refine wpAnyH_take (i := 12) (oi := { dst := some 88, op := Op.move (Operand.tmp 2), type := 22, pos := "law.go:179", after := #[{ on := 4, ground := Ground.guard }], guard := some (4, true) }) (v := ?_) rfl (by kernel_rfl) (by kernel_rfl) (by kernel_rfl) (fun _ _ _ h => h) (Or.inl ⟨by rfl, ?_⟩) (by assumption) ?_
          rotate_left
          · intro w hSw
            (try dsimp only at hSw)
            go_simp
            try with_reducible rfl
          try simp only [Act.put, List.setIfInBounds_toArray, List.set_cons_zero, List.set_cons_succ]
          refine wpAnyH_take (i := 13) (oi := { dst := some 89, op := Op.move (Operand.tmp 16), type := 3, pos := "law.go:179", after := #[{ on := 4, ground := Ground.guard }], guard := some (4, true) }) (v := ?_) rfl (by kernel_rfl) (by kernel_rfl) (by kernel_rfl) (fun _ _ _ h => h) (Or.inl ⟨by rfl, ?_⟩) (by assumption) ?_
          rotate_left
          · intro w hSw
            (try dsimp only at hSw)
            go_simp
            try with_reducible rfl
          try simp only [Act.put, List.setIfInBounds_toArray, List.set_cons_zero, List.set_cons_succ]
          refine wpAnyH_take (i := 14) (oi := { dst := some 90, op := Op.indexAddr 22 (Operand.tmp 88) (Operand.tmp 89), type := 0, pos := "law.go:179", after := #[{ on := 12, ground := Ground.data }, { on := 13, ground := Ground.data }, { on := 4, ground := Ground.guard }], guard := some (4, true) }) (v := ?_) rfl (by kernel_rfl) (by kernel_rfl) (by kernel_rfl) (fun _ _ _ h => h) (Or.inl ⟨by rfl, ?_⟩) (by assumption) ?_
          rotate_left
          · intro w hSw
            (try dsimp only at hSw)
            go_simp
            try with_reducible rfl
          try simp only [Act.put, List.setIfInBounds_toArray, List.set_cons_zero, List.set_cons_succ]
          refine wpAnyH_take (i := 15) (oi := { dst := some 91, op := Op.load 35 (Operand.tmp 90), type := 35, pos := "law.go:179", after := #[{ on := 14, ground := Ground.data }, { on := 4, ground := Ground.guard }], guard := some (4, true) }) (v := ?_) rfl (by kernel_rfl) (by kernel_rfl) (by kernel_rfl) (fun _ _ _ h => h) (Or.inl ⟨by rfl, ?_⟩) (by assumption) ?_
          rotate_left
          · intro w hSw
            (try dsimp only at hSw)
            go_simp
            try with_reducible rfl
          try simp only [Act.put, List.setIfInBounds_toArray, List.set_cons_zero, List.set_cons_succ]
          refine wpAnyH_ready (rs := [10]) (by kernel_rfl) (by simp) ?_
          refine AllReadyH.cons (o := { dst := some 86, op := Op.call { callee := Callee.value (Operand.func 19), args := #[Operand.tmp 81, Operand.tmp 85], argTypes := #[23, 35] }, type := 31, pos := "law.go:179", after := #[{ on := 5, ground := Ground.data }, { on := 9, ground := Ground.data }, { on := 4, ground := Ground.chain }, { on := 4, ground := Ground.guard }], guard := some (4, true) }) rfl (fun K hK => ?_) AllReadyH.nil
          go_simp
          go_at_call 19
          refine (HT1.out _ (by first | exact ⟨_, rfl⟩ | exact ⟨0, rfl⟩ | exact ⟨1, rfl⟩)).mono ?_
          rintro e v1 ⟨rfl, f1, z3⟩
          first
            | refine hK.out _ _ ?_ (fun hHeld => ?_)
            | (go_wp2_with fail; refine hK.out _ _ ?_ (fun hHeld => ?_))
          · exact z3
          clear hK K
          try simp only [Act.put, List.setIfInBounds_toArray, List.set_cons_zero, List.set_cons_succ]
          refine wpAnyH_ready (rs := [16]) (by kernel_rfl) (by simp) ?_
          refine AllReadyH.cons (o := { dst := some 92, op := Op.call { callee := Callee.value (Operand.func 19), args := #[Operand.tmp 87, Operand.tmp 91], argTypes := #[23, 35] }, type := 31, pos := "law.go:179", after := #[{ on := 11, ground := Ground.data }, { on := 15, ground := Ground.data }, { on := 10, ground := Ground.chain }, { on := 4, ground := Ground.guard }], guard := some (4, true) }) rfl (fun K hK => ?_) AllReadyH.nil
          go_simp
          go_at_call 19
          refine (HT2.out _ f1).mono ?_
          rintro e v2 ⟨rfl, f2, z4⟩
          first
            | refine hK.out _ _ ?_ (fun hHeld => ?_)
            | (go_wp2_with fail; refine hK.out _ _ ?_ (fun hHeld => ?_))
          · exact z4
          clear hK K
          try simp only [Act.put, List.setIfInBounds_toArray, List.set_cons_zero, List.set_cons_succ]
          refine wpAnyH_take (i := 17) (oi := { dst := some 93, op := Op.binOp BinOp.neq 31 (Operand.tmp 86) (Operand.tmp 92) 31, type := 4, pos := "law.go:179", after := #[{ on := 10, ground := Ground.data }, { on := 16, ground := Ground.data }, { on := 4, ground := Ground.guard }], guard := some (4, true) }) (v := ?_) rfl (by kernel_rfl) (by kernel_rfl) (by kernel_rfl) (fun _ _ _ h => h) (Or.inl ⟨by rfl, ?_⟩) (by assumption) ?_
          rotate_left
          · intro w hSw
            (try dsimp only at hSw)
            go_simp
            try with_reducible rfl
          try simp only [Act.put, List.setIfInBounds_toArray, List.set_cons_zero, List.set_cons_succ]
          refine wpAnyH_take (i := 18) (oi := { dst := some 94, op := Op.pick (Operand.tmp 80) (Operand.tmp 93) (Operand.const (Value.bool false)), type := 4, pos := "law.go:179", after := #[{ on := 4, ground := Ground.data }, { on := 17, ground := Ground.data }], guard := none }) (v := ?_) rfl (by kernel_rfl) (by kernel_rfl) (by kernel_rfl) (fun _ _ _ h => h) (Or.inl ⟨by rfl, ?_⟩) (by assumption) ?_
          rotate_left
          · intro w hSw
            (try dsimp only at hSw)
            go_simp
            try with_reducible rfl
          try simp only [Act.put, List.setIfInBounds_toArray, List.set_cons_zero, List.set_cons_succ]
          refine wpAnyH_take (i := 19) (oi := { dst := some 95, op := Op.move (Operand.tmp 94), type := 4, pos := "law.go:179", after := #[{ on := 18, ground := Ground.data }, { on := 16, ground := Ground.chain }], guard := none }) (v := ?_) rfl (by kernel_rfl) (by kernel_rfl) (by kernel_rfl) (fun _ _ _ h => h) (Or.inl ⟨by rfl, ?_⟩) (by assumption) ?_
          rotate_left
          · intro w hSw
            (try dsimp only at hSw)
            go_simp
            try with_reducible rfl
          try simp only [Act.put, List.setIfInBounds_toArray, List.set_cons_zero, List.set_cons_succ]
          refine wpAnyH_take (i := 20) (oi := { dst := some 96, op := Op.move (Operand.tmp 16), type := 3, pos := "law.go:179", after := #[{ on := 19, ground := Ground.guard }], guard := some (19, false) }) (v := ?_) rfl (by kernel_rfl) (by kernel_rfl) (by kernel_rfl) (fun _ _ _ h => h) (Or.inl ⟨by rfl, ?_⟩) (by assumption) ?_
          rotate_left
          · intro w hSw
            (try dsimp only at hSw)
            go_simp
            try with_reducible rfl
          try simp only [Act.put, List.setIfInBounds_toArray, List.set_cons_zero, List.set_cons_succ]
          refine wpAnyH_take (i := 21) (oi := { dst := some 97, op := Op.move (Operand.tmp 3), type := 22, pos := "law.go:179", after := #[{ on := 19, ground := Ground.guard }], guard := some (19, false) }) (v := ?_) rfl (by kernel_rfl) (by kernel_rfl) (by kernel_rfl) (fun _ _ _ h => h) (Or.inl ⟨by rfl, ?_⟩) (by assumption) ?_
          rotate_left
          · intro w hSw
            (try dsimp only at hSw)
            go_simp
            try with_reducible rfl
          try simp only [Act.put, List.setIfInBounds_toArray, List.set_cons_zero, List.set_cons_succ]
          refine wpAnyH_take (i := 22) (oi := { dst := some 98, op := Op.call { callee := Callee.builtin Builtin.len, args := #[Operand.tmp 97], argTypes := #[22] }, type := 3, pos := "law.go:179", after := #[{ on := 21, ground := Ground.data }, { on := 19, ground := Ground.guard }], guard := some (19, false) }) (v := ?_) rfl (by kernel_rfl) (by kernel_rfl) (by kernel_rfl) (fun _ _ _ h => h) (Or.inl ⟨by rfl, ?_⟩) (by assumption) ?_
          rotate_left
          · intro w hSw
            (try dsimp only at hSw)
            go_simp
            try with_reducible rfl
          try simp only [Act.put, List.setIfInBounds_toArray, List.set_cons_zero, List.set_cons_succ]
          refine wpAnyH_take (i := 23) (oi := { dst := some 99, op := Op.binOp BinOp.lss 3 (Operand.tmp 96) (Operand.tmp 98) 3, type := 4, pos := "law.go:179", after := #[{ on := 20, ground := Ground.data }, { on := 22, ground := Ground.data }, { on := 19, ground := Ground.guard }], guard := some (19, false) }) (v := .bool false) rfl (by kernel_rfl) (by kernel_rfl) (by kernel_rfl) (fun _ _ _ h => h) (Or.inl ⟨by rfl, ?_⟩) (by assumption) ?_
          · intro w hSw
            (try dsimp only at hSw)
            have hz := HDEC2.out
            go_simp
            all_goals first | with_reducible rfl | simp [hz] | (rw [HDEC2.out]) | omega
          try simp only [Act.put, List.setIfInBounds_toArray, List.set_cons_zero, List.set_cons_succ]
          refine wpAnyH_take (i := 24) (oi := { dst := some 100, op := Op.move (Operand.tmp 99), type := 4, pos := "law.go:179", after := #[{ on := 23, ground := Ground.data }, { on := 19, ground := Ground.chain }, { on := 19, ground := Ground.guard }], guard := some (19, false) }) (v := ?_) rfl (by kernel_rfl) (by kernel_rfl) (by kernel_rfl) (fun _ _ _ h => h) (Or.inl ⟨by rfl, ?_⟩) (by assumption) ?_
          rotate_left
          · intro w hSw
            (try dsimp only at hSw)
            go_simp
            try with_reducible rfl
          try simp only [Act.put, List.setIfInBounds_toArray, List.set_cons_zero, List.set_cons_succ]
          refine wpAnyH_take (i := 25) (oi := { dst := some 101, op := Op.move (Operand.tmp 9), type := 23, pos := "law.go:179", after := #[{ on := 24, ground := Ground.guard }], guard := some (24, true) }) (v := undef) rfl (by kernel_rfl) (by kernel_rfl) (by kernel_rfl) (fun _ _ _ h => h) (Or.inr ⟨by rfl, rfl⟩) (by assumption) ?_
          try simp only [Act.put, List.setIfInBounds_toArray, List.set_cons_zero, List.set_cons_succ]
          refine wpAnyH_take (i := 26) (oi := { dst := some 102, op := Op.move (Operand.tmp 3), type := 22, pos := "law.go:179", after := #[{ on := 24, ground := Ground.guard }], guard := some (24, true) }) (v := undef) rfl (by kernel_rfl) (by kernel_rfl) (by kernel_rfl) (fun _ _ _ h => h) (Or.inr ⟨by rfl, rfl⟩) (by assumption) ?_
          try simp only [Act.put, List.setIfInBounds_toArray, List.set_cons_zero, List.set_cons_succ]
          refine wpAnyH_take (i := 27) (oi := { dst := some 103, op := Op.move (Operand.tmp 16), type := 3, pos := "law.go:179", after := #[{ on := 24, ground := Ground.guard }], guard := some (24, true) }) (v := undef) rfl (by kernel_rfl) (by kernel_rfl) (by kernel_rfl) (fun _ _ _ h => h) (Or.inr ⟨by rfl, rfl⟩) (by assumption) ?_
          try simp only [Act.put, List.setIfInBounds_toArray, List.set_cons_zero, List.set_cons_succ]
          refine wpAnyH_take (i := 28) (oi := { dst := some 104, op := Op.indexAddr 22 (Operand.tmp 102) (Operand.tmp 103), type := 0, pos := "law.go:179", after := #[{ on := 26, ground := Ground.data }, { on := 27, ground := Ground.data }, { on := 24, ground := Ground.guard }], guard := some (24, true) }) (v := undef) rfl (by kernel_rfl) (by kernel_rfl) (by kernel_rfl) (fun _ _ _ h => h) (Or.inr ⟨by rfl, rfl⟩) (by assumption) ?_
          try simp only [Act.put, List.setIfInBounds_toArray, List.set_cons_zero, List.set_cons_succ]
          refine wpAnyH_take (i := 29) (oi := { dst := some 105, op := Op.load 35 (Operand.tmp 104), type := 35, pos := "law.go:179", after := #[{ on := 28, ground := Ground.data }, { on := 24, ground := Ground.guard }], guard := some (24, true) }) (v := undef) rfl (by kernel_rfl) (by kernel_rfl) (by kernel_rfl) (fun _ _ _ h => h) (Or.inr ⟨by rfl, rfl⟩) (by assumption) ?_
          try simp only [Act.put, List.setIfInBounds_toArray, List.set_cons_zero, List.set_cons_succ]
          refine wpAnyH_take (i := 31) (oi := { dst := some 107, op := Op.move (Operand.tmp 14), type := 23, pos := "law.go:179", after := #[{ on := 24, ground := Ground.guard }], guard := some (24, true) }) (v := undef) rfl (by kernel_rfl) (by kernel_rfl) (by kernel_rfl) (fun _ _ _ h => h) (Or.inr ⟨by rfl, rfl⟩) (by assumption) ?_
          try simp only [Act.put, List.setIfInBounds_toArray, List.set_cons_zero, List.set_cons_succ]
          refine wpAnyH_take (i := 32) (oi := { dst := some 108, op := Op.move (Operand.tmp 3), type := 22, pos := "law.go:179", after := #[{ on := 24, ground := Ground.guard }], guard := some (24, true) }) (v := undef) rfl (by kernel_rfl) (by kernel_rfl) (by kernel_rfl) (fun _ _ _ h => h) (Or.inr ⟨by rfl, rfl⟩) (by assumption) ?_
          try simp only [Act.put, List.setIfInBounds_toArray, List.set_cons_zero, List.set_cons_succ]
          refine wpAnyH_take (i := 33) (oi := { dst := some 109, op := Op.move (Operand.tmp 16), type := 3, pos := "law.go:179", after := #[{ on := 24, ground := Ground.guard }], guard := some (24, true) }) (v := undef) rfl (by kernel_rfl) (by kernel_rfl) (by kernel_rfl) (fun _ _ _ h => h) (Or.inr ⟨by rfl, rfl⟩) (by assumption) ?_
          try simp only [Act.put, List.setIfInBounds_toArray, List.set_cons_zero, List.set_cons_succ]
          refine wpAnyH_take (i := 34) (oi := { dst := some 110, op := Op.indexAddr 22 (Operand.tmp 108) (Operand.tmp 109), type := 0, pos := "law.go:179", after := #[{ on := 32, ground := Ground.data }, { on := 33, ground := Ground.data }, { on := 24, ground := Ground.guard }], guard := some (24, true) }) (v := undef) rfl (by kernel_rfl) (by kernel_rfl) (by kernel_rfl) (fun _ _ _ h => h) (Or.inr ⟨by rfl, rfl⟩) (by assumption) ?_
          try simp only [Act.put, List.setIfInBounds_toArray, List.set_cons_zero, List.set_cons_succ]
          refine wpAnyH_take (i := 35) (oi := { dst := some 111, op := Op.load 35 (Operand.tmp 110), type := 35, pos := "law.go:179", after := #[{ on := 34, ground := Ground.data }, { on := 24, ground := Ground.guard }], guard := some (24, true) }) (v := undef) rfl (by kernel_rfl) (by kernel_rfl) (by kernel_rfl) (fun _ _ _ h => h) (Or.inr ⟨by rfl, rfl⟩) (by assumption) ?_
          try simp only [Act.put, List.setIfInBounds_toArray, List.set_cons_zero, List.set_cons_succ]
          refine wpAnyH_take (i := 30) (oi := { dst := some 106, op := Op.call { callee := Callee.value (Operand.func 19), args := #[Operand.tmp 101, Operand.tmp 105], argTypes := #[23, 35] }, type := 31, pos := "law.go:179", after := #[{ on := 25, ground := Ground.data }, { on := 29, ground := Ground.data }, { on := 24, ground := Ground.chain }, { on := 24, ground := Ground.guard }], guard := some (24, true) }) (v := undef) rfl (by kernel_rfl) (by kernel_rfl) (by kernel_rfl) (fun _ _ _ h => h) (Or.inr ⟨by rfl, rfl⟩) (by assumption) ?_
          try simp only [Act.put, List.setIfInBounds_toArray, List.set_cons_zero, List.set_cons_succ]
          refine wpAnyH_take (i := 36) (oi := { dst := some 112, op := Op.call { callee := Callee.value (Operand.func 19), args := #[Operand.tmp 107, Operand.tmp 111], argTypes := #[23, 35] }, type := 31, pos := "law.go:179", after := #[{ on := 31, ground := Ground.data }, { on := 35, ground := Ground.data }, { on := 30, ground := Ground.chain }, { on := 24, ground := Ground.guard }], guard := some (24, true) }) (v := undef) rfl (by kernel_rfl) (by kernel_rfl) (by kernel_rfl) (fun _ _ _ h => h) (Or.inr ⟨by rfl, rfl⟩) (by assumption) ?_
          try simp only [Act.put, List.setIfInBounds_toArray, List.set_cons_zero, List.set_cons_succ]
          refine wpAnyH_take (i := 37) (oi := { dst := some 113, op := Op.binOp BinOp.neq 31 (Operand.tmp 106) (Operand.tmp 112) 31, type := 4, pos := "law.go:179", after := #[{ on := 30, ground := Ground.data }, { on := 36, ground := Ground.data }, { on := 24, ground := Ground.guard }], guard := some (24, true) }) (v := undef) rfl (by kernel_rfl) (by kernel_rfl) (by kernel_rfl) (fun _ _ _ h => h) (Or.inr ⟨by rfl, rfl⟩) (by assumption) ?_
          try simp only [Act.put, List.setIfInBounds_toArray, List.set_cons_zero, List.set_cons_succ]
          refine wpAnyH_take (i := 38) (oi := { dst := some 114, op := Op.pick (Operand.tmp 100) (Operand.tmp 113) (Operand.const (Value.bool false)), type := 4, pos := "law.go:179", after := #[{ on := 24, ground := Ground.data }, { on := 37, ground := Ground.data }, { on := 19, ground := Ground.guard }], guard := some (19, false) }) (v := ?_) rfl (by kernel_rfl) (by kernel_rfl) (by kernel_rfl) (fun _ _ _ h => h) (Or.inl ⟨by rfl, ?_⟩) (by assumption) ?_
          rotate_left
          · intro w hSw
            (try dsimp only at hSw)
            go_simp
            try with_reducible rfl
          try simp only [Act.put, List.setIfInBounds_toArray, List.set_cons_zero, List.set_cons_succ]
          refine wpAnyH_take (i := 39) (oi := { dst := some 115, op := Op.pick (Operand.tmp 95) (Operand.const (Value.bool true)) (Operand.tmp 114), type := 4, pos := "law.go:179", after := #[{ on := 19, ground := Ground.data }, { on := 38, ground := Ground.data }], guard := none }) (v := ?_) rfl (by kernel_rfl) (by kernel_rfl) (by kernel_rfl) (fun _ _ _ h => h) (Or.inl ⟨by rfl, ?_⟩) (by assumption) ?_
          rotate_left
          · intro w hSw
            (try dsimp only at hSw)
            go_simp
            try with_reducible rfl
          try simp only [Act.put, List.setIfInBounds_toArray, List.set_cons_zero, List.set_cons_succ]
          refine wpAnyH_done (by kernel_rfl) ?_ _
          go_wp2
          go_roundw
          case rel => exact ⟨k + 1, (sc.step x1).2, sd, by omega, by go_num, HNX.out.1, HNX.out.2.1, HNX.out.2.2.1, HNX.out.2.2.2, f2⟩
          case measure => simp [intOf]; omega
      · have hk2 : (k : Int) < (len2 : Int) := by have := HMM.out; omega
        obtain ⟨x2, hget2⟩ : ∃ x, l2[k]? = some x := ⟨l2[k]'(by have := HL2.out.len_; omega), List.getElem?_eq_getElem _⟩
        obtain ⟨a2, o2, rfl, hx2⟩ := HL2.out.at_ (by omega)
        obtain ⟨q2, m2, c2, hr2⟩ := hx2 k x2 hget2
        have HB2 := hide (isShort_b HS2.out hget2)
        have HR2 := hide hr2
        have he2 : Eight wr a2 (o2 + k * 8) x2 q2 m2 c2 := Eight.of (hr2.chg (Chg.of_below HF.out.below (fun _ => False)))
        have HE2 := hide (fun V (hV : Four w g sd g' sc ge sc gf sd V) => (Eight.of (hr2.chg (Chg.of_below hV.below (fun _ => False))) : Eight V a2 (o2 + k * 8) x2 q2 m2 c2))
        clear hx2 hr2 hget2
        obtain ⟨r2, hr2⟩ : ∃ r, r = (sd.step x2).1 := ⟨_, rfl⟩
        have HT3 := hide (fun V (hV : ∃ q, V = wr.drewN q) => (by
          obtain ⟨q, rfl⟩ := hV
          have h := twin0 HR2.out HC.out.2.2.1 (by omega) HB2.out (HF.out.chg ((Chg.refl wr _).drewN q))
          rw [← hr2] at h
          exact h : Calls Try.prog 19 #[.pointer (some ⟨g, 0, none⟩), .agg #[.int .i64 x2.op, .string x2.name, .string x2.to, .int .i64 x2.at_, .slice q2 m2 c2, .int .i64 x2.n, .int .i64 x2.keep, .int .i64 x2.tear]] V fun e w' => e = .returned (.int .i64 (r2 : Nat)) ∧ Four w g (sd.step x2).2 g' sc ge sc gf sd w' ∧ Eight w' a2 (o2 + k * 8) x2 q2 m2 c2))
        have HT4 := hide (fun V (hV : Four w g (sd.step x2).2 g' sc ge sc gf sd V) => (by
          have h := twin3 HR2.out HC.out.2.2.1 (by omega) HB2.out hV
          rw [← hr2] at h
          exact h : Calls Try.prog 19 #[.pointer (some ⟨gf, 0, none⟩), .agg #[.int .i64 x2.op, .string x2.name, .string x2.to, .int .i64 x2.at_, .slice q2 m2 c2, .int .i64 x2.n, .int .i64 x2.keep, .int .i64 x2.tear]] V fun e w' => e = .returned (.int .i64 (r2 : Nat)) ∧ Four w g (sd.step x2).2 g' sc ge sc gf (sd.step x2).2 w' ∧ Eight w' a2 (o2 + k * 8) x2 q2 m2 c2))
        have HNX := hide (And.intro (HC.out.1.mono (j := 120 + (k + 1)) (by omega)) (And.intro HC.out.2.1 (And.intro (HC.out.2.2.1.step x2 HR2.out.is_.h5 HR2.out.is_.h6) (HC.out.2.2.2.step x2))))
        have HDEC1 := hide (show decide ((k : Int) < (len1 : Int)) = false from decide_eq_false hk1)
        clear hr2
        have z1 : Eight wr.drew a2 (o2 + k * 8) x2 q2 m2 c2 := he2
        clear he2
        go_wp2_with fail
        refine wp_region_held_drew (S := fun W => W.cell? ⟨a2, o2 + k * 8, none⟩ = some (.int .i64 x2.op) ∧ W.cell? ⟨a2, o2 + k * 8 + 1, none⟩ = some (.string x2.name) ∧ W.cell? ⟨a2, o2 + k * 8 + 2, none⟩ = some (.string x2.to) ∧ W.cell? ⟨a2, o2 + k * 8 + 3, none⟩ = some (.int .i64 x2.at_) ∧ W.cell? ⟨a2, o2 + k * 8 + 4, none⟩ = some (.slice q2 m2 c2) ∧ W.cell? ⟨a2, o2 + k * 8 + 5, none⟩ = some (.int .i64 x2.n) ∧ W.cell? ⟨a2, o2 + k * 8 + 6, none⟩ = some (.int .i64 x2.keep) ∧ W.cell? ⟨a2, o2 + k * 8 + 7, none⟩ = some (.int .i64 x2.tear)) (by kernel_rfl) ?_ (fun hHeld => ?_)
        · exact z1
        refine wpAnyH_take (i := 0) (oi := { dst := some 76, op := Op.move (Operand.tmp 16), type := 3, pos := "law.go:179", after := #[], guard := none }) (v := ?_) rfl (by kernel_rfl) (by kernel_rfl) (by kernel_rfl) (fun _ _ _ h => h) (Or.inl ⟨by rfl, ?_⟩) (by assumption) ?_
        rotate_left
        · intro w hSw
          (try dsimp only at hSw)
          go_simp
          try with_reducible rfl
        try simp only [Act.put, List.setIfInBounds_toArray, List.set_cons_zero, List.set_cons_succ]
        refine wpAnyH_take (i := 1) (oi := { dst := some 77, op := Op.move (Operand.tmp 2), type := 22, pos := "law.go:179", after := #[], guard := none }) (v := ?_) rfl (by kernel_rfl) (by kernel_rfl) (by kernel_rfl) (fun _ _ _ h => h) (Or.inl ⟨by rfl, ?_⟩) (by assumption) ?_
        rotate_left
        · intro w hSw
          (try dsimp only at hSw)
          go_simp
          try with_reducible rfl
        try simp only [Act.put, List.setIfInBounds_toArray, List.set_cons_zero, List.set_cons_succ]
        refine wpAnyH_take (i := 2) (oi := { dst := some 78, op := Op.call { callee := Callee.builtin Builtin.len, args := #[Operand.tmp 77], argTypes := #[22] }, type := 3, pos := "law.go:179", after := #[{ on := 1, ground := Ground.data }], guard := none }) (v := ?_) rfl (by kernel_rfl) (by kernel_rfl) (by kernel_rfl) (fun _ _ _ h => h) (Or.inl ⟨by rfl, ?_⟩) (by assumption) ?_
        rotate_left
        · intro w hSw
          (try dsimp only at hSw)
          go_simp
          try with_reducible rfl
        try simp only [Act.put, List.setIfInBounds_toArray, List.set_cons_zero, List.set_cons_succ]
        refine wpAnyH_take (i := 3) (oi := { dst := some 79, op := Op.binOp BinOp.lss 3 (Operand.tmp 76) (Operand.tmp 78) 3, type := 4, pos := "law.go:179", after := #[{ on := 0, ground := Ground.data }, { on := 2, ground := Ground.data }], guard := none }) (v := .bool false) rfl (by kernel_rfl) (by kernel_rfl) (by kernel_rfl) (fun _ _ _ h => h) (Or.inl ⟨by rfl, ?_⟩) (by assumption) ?_
        · intro w hSw
          (try dsimp only at hSw)
          have hz := HDEC1.out
          go_simp
          all_goals first | with_reducible rfl | simp [hz] | (rw [HDEC1.out]) | omega
        try simp only [Act.put, List.setIfInBounds_toArray, List.set_cons_zero, List.set_cons_succ]
        refine wpAnyH_take (i := 4) (oi := { dst := some 80, op := Op.move (Operand.tmp 79), type := 4, pos := "law.go:179", after := #[{ on := 3, ground := Ground.data }], guard := none }) (v := ?_) rfl (by kernel_rfl) (by kernel_rfl) (by kernel_rfl) (fun _ _ _ h => h) (Or.inl ⟨by rfl, ?_⟩) (by assumption) ?_
        rotate_left
        · intro w hSw
          (try dsimp only at hSw)
          go_simp
          try with_reducible rfl
        try simp only [Act.put, List.setIfInBounds_toArray, List.set_cons_zero, List.set_cons_succ]
        refine wpAnyH_take (i := 5) (oi := { dst := some 81, op := Op.move (Operand.tmp 11), type := 23, pos := "law.go:179", after := #[{ on := 4, ground := Ground.guard }], guard := some (4, true) }) (v := undef) rfl (by kernel_rfl) (by kernel_rfl) (by kernel_rfl) (fun _ _ _ h => h) (Or.inr ⟨by rfl, rfl⟩) (by assumption) ?_
        try simp only [Act.put, List.setIfInBounds_toArray, List.set_cons_zero, List.set_cons_succ]
        refine wpAnyH_take (i := 6) (oi := { dst := some 82, op := Op.move (Operand.tmp 2), type := 22, pos := "law.go:179", after := #[{ on := 4, ground := Ground.guard }], guard := some (4, true) }) (v := undef) rfl (by kernel_rfl) (by kernel_rfl) (by kernel_rfl) (fun _ _ _ h => h) (Or.inr ⟨by rfl, rfl⟩) (by assumption) ?_
        try simp only [Act.put, List.setIfInBounds_toArray, List.set_cons_zero, List.set_cons_succ]
        refine wpAnyH_take (i := 7) (oi := { dst := some 83, op := Op.move (Operand.tmp 16), type := 3, pos := "law.go:179", after := #[{ on := 4, ground := Ground.guard }], guard := some (4, true) }) (v := undef) rfl (by kernel_rfl) (by kernel_rfl) (by kernel_rfl) (fun _ _ _ h => h) (Or.inr ⟨by rfl, rfl⟩) (by assumption) ?_
        try simp only [Act.put, List.setIfInBounds_toArray, List.set_cons_zero, List.set_cons_succ]
        refine wpAnyH_take (i := 8) (oi := { dst := some 84, op := Op.indexAddr 22 (Operand.tmp 82) (Operand.tmp 83), type := 0, pos := "law.go:179", after := #[{ on := 6, ground := Ground.data }, { on := 7, ground := Ground.data }, { on := 4, ground := Ground.guard }], guard := some (4, true) }) (v := undef) rfl (by kernel_rfl) (by kernel_rfl) (by kernel_rfl) (fun _ _ _ h => h) (Or.inr ⟨by rfl, rfl⟩) (by assumption) ?_
        try simp only [Act.put, List.setIfInBounds_toArray, List.set_cons_zero, List.set_cons_succ]
        refine wpAnyH_take (i := 9) (oi := { dst := some 85, op := Op.load 35 (Operand.tmp 84), type := 35, pos := "law.go:179", after := #[{ on := 8, ground := Ground.data }, { on := 4, ground := Ground.guard }], guard := some (4, true) }) (v := undef) rfl (by kernel_rfl) (by kernel_rfl) (by kernel_rfl) (fun _ _ _ h => h) (Or.inr ⟨by rfl, rfl⟩) (by assumption) ?_
        try simp only [Act.put, List.setIfInBounds_toArray, List.set_cons_zero, List.set_cons_succ]
        refine wpAnyH_take (i := 11) (oi := { dst := some 87, op := Op.move (Operand.tmp 12), type := 23, pos := "law.go:179", after := #[{ on := 4, ground := Ground.guard }], guard := some (4, true) }) (v := undef) rfl (by kernel_rfl) (by kernel_rfl) (by kernel_rfl) (fun _ _ _ h => h) (Or.inr ⟨by rfl, rfl⟩) (by assumption) ?_
        try simp only [Act.put, List.setIfInBounds_toArray, List.set_cons_zero, List.set_cons_succ]
        refine wpAnyH_take (i := 12) (oi := { dst := some 88, op := Op.move (Operand.tmp 2), type := 22, pos := "law.go:179", after := #[{ on := 4, ground := Ground.guard }], guard := some (4, true) }) (v := undef) rfl (by kernel_rfl) (by kernel_rfl) (by kernel_rfl) (fun _ _ _ h => h) (Or.inr ⟨by rfl, rfl⟩) (by assumption) ?_
        try simp only [Act.put, List.setIfInBounds_toArray, List.set_cons_zero, List.set_cons_succ]
        refine wpAnyH_take (i := 13) (oi := { dst := some 89, op := Op.move (Operand.tmp 16), type := 3, pos := "law.go:179", after := #[{ on := 4, ground := Ground.guard }], guard := some (4, true) }) (v := undef) rfl (by kernel_rfl) (by kernel_rfl) (by kernel_rfl) (fun _ _ _ h => h) (Or.inr ⟨by rfl, rfl⟩) (by assumption) ?_
        try simp only [Act.put, List.setIfInBounds_toArray, List.set_cons_zero, List.set_cons_succ]
        refine wpAnyH_take (i := 14) (oi := { dst := some 90, op := Op.indexAddr 22 (Operand.tmp 88) (Operand.tmp 89), type := 0, pos := "law.go:179", after := #[{ on := 12, ground := Ground.data }, { on := 13, ground := Ground.data }, { on := 4, ground := Ground.guard }], guard := some (4, true) }) (v := undef) rfl (by kernel_rfl) (by kernel_rfl) (by kernel_rfl) (fun _ _ _ h => h) (Or.inr ⟨by rfl, rfl⟩) (by assumption) ?_
        try simp only [Act.put, List.setIfInBounds_toArray, List.set_cons_zero, List.set_cons_succ]
        refine wpAnyH_take (i := 15) (oi := { dst := some 91, op := Op.load 35 (Operand.tmp 90), type := 35, pos := "law.go:179", after := #[{ on := 14, ground := Ground.data }, { on := 4, ground := Ground.guard }], guard := some (4, true) }) (v := undef) rfl (by kernel_rfl) (by kernel_rfl) (by kernel_rfl) (fun _ _ _ h => h) (Or.inr ⟨by rfl, rfl⟩) (by assumption) ?_
        try simp only [Act.put, List.setIfInBounds_toArray, List.set_cons_zero, List.set_cons_succ]
        refine wpAnyH_take (i := 10) (oi := { dst := some 86, op := Op.call { callee := Callee.value (Operand.func 19), args := #[Operand.tmp 81, Operand.tmp 85], argTypes := #[23, 35] }, type := 31, pos := "law.go:179", after := #[{ on := 5, ground := Ground.data }, { on := 9, ground := Ground.data }, { on := 4, ground := Ground.chain }, { on := 4, ground := Ground.guard }], guard := some (4, true) }) (v := undef) rfl (by kernel_rfl) (by kernel_rfl) (by kernel_rfl) (fun _ _ _ h => h) (Or.inr ⟨by rfl, rfl⟩) (by assumption) ?_
        try simp only [Act.put, List.setIfInBounds_toArray, List.set_cons_zero, List.set_cons_succ]
        refine wpAnyH_take (i := 16) (oi := { dst := some 92, op := Op.call { callee := Callee.value (Operand.func 19), args := #[Operand.tmp 87, Operand.tmp 91], argTypes := #[23, 35] }, type := 31, pos := "law.go:179", after := #[{ on := 11, ground := Ground.data }, { on := 15, ground := Ground.data }, { on := 10, ground := Ground.chain }, { on := 4, ground := Ground.guard }], guard := some (4, true) }) (v := undef) rfl (by kernel_rfl) (by kernel_rfl) (by kernel_rfl) (fun _ _ _ h => h) (Or.inr ⟨by rfl, rfl⟩) (by assumption) ?_
        try simp only [Act.put, List.setIfInBounds_toArray, List.set_cons_zero, List.set_cons_succ]
        refine wpAnyH_take (i := 17) (oi := { dst := some 93, op := Op.binOp BinOp.neq 31 (Operand.tmp 86) (Operand.tmp 92) 31, type := 4, pos := "law.go:179", after := #[{ on := 10, ground := Ground.data }, { on := 16, ground := Ground.data }, { on := 4, ground := Ground.guard }], guard := some (4, true) }) (v := undef) rfl (by kernel_rfl) (by kernel_rfl) (by kernel_rfl) (fun _ _ _ h => h) (Or.inr ⟨by rfl, rfl⟩) (by assumption) ?_
        try simp only [Act.put, List.setIfInBounds_toArray, List.set_cons_zero, List.set_cons_succ]
        refine wpAnyH_take (i := 18) (oi := { dst := some 94, op := Op.pick (Operand.tmp 80) (Operand.tmp 93) (Operand.const (Value.bool false)), type := 4, pos := "law.go:179", after := #[{ on := 4, ground := Ground.data }, { on := 17, ground := Ground.data }], guard := none }) (v := ?_) rfl (by kernel_rfl) (by kernel_rfl) (by kernel_rfl) (fun _ _ _ h => h) (Or.inl ⟨by rfl, ?_⟩) (by assumption) ?_
        rotate_left
        · intro w hSw
          (try dsimp only at hSw)
          go_simp
          try with_reducible rfl
        try simp only [Act.put, List.setIfInBounds_toArray, List.set_cons_zero, List.set_cons_succ]
        refine wpAnyH_take (i := 19) (oi := { dst := some 95, op := Op.move (Operand.tmp 94), type := 4, pos := "law.go:179", after := #[{ on := 18, ground := Ground.data }, { on := 16, ground := Ground.chain }], guard := none }) (v := ?_) rfl (by kernel_rfl) (by kernel_rfl) (by kernel_rfl) (fun _ _ _ h => h) (Or.inl ⟨by rfl, ?_⟩) (by assumption) ?_
        rotate_left
        · intro w hSw
          (try dsimp only at hSw)
          go_simp
          try with_reducible rfl
        try simp only [Act.put, List.setIfInBounds_toArray, List.set_cons_zero, List.set_cons_succ]
        refine wpAnyH_take (i := 20) (oi := { dst := some 96, op := Op.move (Operand.tmp 16), type := 3, pos := "law.go:179", after := #[{ on := 19, ground := Ground.guard }], guard := some (19, false) }) (v := ?_) rfl (by kernel_rfl) (by kernel_rfl) (by kernel_rfl) (fun _ _ _ h => h) (Or.inl ⟨by rfl, ?_⟩) (by assumption) ?_
        rotate_left
        · intro w hSw
          (try dsimp only at hSw)
          go_simp
          try with_reducible rfl
        try simp only [Act.put, List.setIfInBounds_toArray, List.set_cons_zero, List.set_cons_succ]
        refine wpAnyH_take (i := 21) (oi := { dst := some 97, op := Op.move (Operand.tmp 3), type := 22, pos := "law.go:179", after := #[{ on := 19, ground := Ground.guard }], guard := some (19, false) }) (v := ?_) rfl (by kernel_rfl) (by kernel_rfl) (by kernel_rfl) (fun _ _ _ h => h) (Or.inl ⟨by rfl, ?_⟩) (by assumption) ?_
        rotate_left
        · intro w hSw
          (try dsimp only at hSw)
          go_simp
          try with_reducible rfl
        try simp only [Act.put, List.setIfInBounds_toArray, List.set_cons_zero, List.set_cons_succ]
        refine wpAnyH_take (i := 22) (oi := { dst := some 98, op := Op.call { callee := Callee.builtin Builtin.len, args := #[Operand.tmp 97], argTypes := #[22] }, type := 3, pos := "law.go:179", after := #[{ on := 21, ground := Ground.data }, { on := 19, ground := Ground.guard }], guard := some (19, false) }) (v := ?_) rfl (by kernel_rfl) (by kernel_rfl) (by kernel_rfl) (fun _ _ _ h => h) (Or.inl ⟨by rfl, ?_⟩) (by assumption) ?_
        rotate_left
        · intro w hSw
          (try dsimp only at hSw)
          go_simp
          try with_reducible rfl
        try simp only [Act.put, List.setIfInBounds_toArray, List.set_cons_zero, List.set_cons_succ]
        refine wpAnyH_take (i := 23) (oi := { dst := some 99, op := Op.binOp BinOp.lss 3 (Operand.tmp 96) (Operand.tmp 98) 3, type := 4, pos := "law.go:179", after := #[{ on := 20, ground := Ground.data }, { on := 22, ground := Ground.data }, { on := 19, ground := Ground.guard }], guard := some (19, false) }) (v := ?_) rfl (by kernel_rfl) (by kernel_rfl) (by kernel_rfl) (fun _ _ _ h => h) (Or.inl ⟨by rfl, ?_⟩) (by assumption) ?_
        rotate_left
        · intro w hSw
          (try dsimp only at hSw)
          go_simp
          try with_reducible rfl
        try simp only [Act.put, List.setIfInBounds_toArray, List.set_cons_zero, List.set_cons_succ]
        refine wpAnyH_take (i := 24) (oi := { dst := some 100, op := Op.move (Operand.tmp 99), type := 4, pos := "law.go:179", after := #[{ on := 23, ground := Ground.data }, { on := 19, ground := Ground.chain }, { on := 19, ground := Ground.guard }], guard := some (19, false) }) (v := ?_) rfl (by kernel_rfl) (by kernel_rfl) (by kernel_rfl) (fun _ _ _ h => h) (Or.inl ⟨by rfl, ?_⟩) (by assumption) ?_
        rotate_left
        · intro w hSw
          (try dsimp only at hSw)
          go_simp
          try with_reducible rfl
        try simp only [Act.put, List.setIfInBounds_toArray, List.set_cons_zero, List.set_cons_succ]
        refine wpAnyH_take (i := 25) (oi := { dst := some 101, op := Op.move (Operand.tmp 9), type := 23, pos := "law.go:179", after := #[{ on := 24, ground := Ground.guard }], guard := some (24, true) }) (v := ?_) rfl (by kernel_rfl) (by kernel_rfl) (by kernel_rfl) (fun _ _ _ h => h) (Or.inl ⟨by rfl, ?_⟩) (by assumption) ?_
        rotate_left
        · intro w hSw
          (try dsimp only at hSw)
          go_simp
          try with_reducible rfl
        try simp only [Act.put, List.setIfInBounds_toArray, List.set_cons_zero, List.set_cons_succ]
        refine wpAnyH_take (i := 26) (oi := { dst := some 102, op := Op.move (Operand.tmp 3), type := 22, pos := "law.go:179", after := #[{ on := 24, ground := Ground.guard }], guard := some (24, true) }) (v := ?_) rfl (by kernel_rfl) (by kernel_rfl) (by kernel_rfl) (fun _ _ _ h => h) (Or.inl ⟨by rfl, ?_⟩) (by assumption) ?_
        rotate_left
        · intro w hSw
          (try dsimp only at hSw)
          go_simp
          try with_reducible rfl
        try simp only [Act.put, List.setIfInBounds_toArray, List.set_cons_zero, List.set_cons_succ]
        refine wpAnyH_take (i := 27) (oi := { dst := some 103, op := Op.move (Operand.tmp 16), type := 3, pos := "law.go:179", after := #[{ on := 24, ground := Ground.guard }], guard := some (24, true) }) (v := ?_) rfl (by kernel_rfl) (by kernel_rfl) (by kernel_rfl) (fun _ _ _ h => h) (Or.inl ⟨by rfl, ?_⟩) (by assumption) ?_
        rotate_left
        · intro w hSw
          (try dsimp only at hSw)
          go_simp
          try with_reducible rfl
        try simp only [Act.put, List.setIfInBounds_toArray, List.set_cons_zero, List.set_cons_succ]
        refine wpAnyH_take (i := 28) (oi := { dst := some 104, op := Op.indexAddr 22 (Operand.tmp 102) (Operand.tmp 103), type := 0, pos := "law.go:179", after := #[{ on := 26, ground := Ground.data }, { on := 27, ground := Ground.data }, { on := 24, ground := Ground.guard }], guard := some (24, true) }) (v := ?_) rfl (by kernel_rfl) (by kernel_rfl) (by kernel_rfl) (fun _ _ _ h => h) (Or.inl ⟨by rfl, ?_⟩) (by assumption) ?_
        rotate_left
        · intro w hSw
          (try dsimp only at hSw)
          go_simp
          try with_reducible rfl
        try simp only [Act.put, List.setIfInBounds_toArray, List.set_cons_zero, List.set_cons_succ]
        refine wpAnyH_take (i := 29) (oi := { dst := some 105, op := Op.load 35 (Operand.tmp 104), type := 35, pos := "law.go:179", after := #[{ on := 28, ground := Ground.data }, { on := 24, ground := Ground.guard }], guard := some (24, true) }) (v := ?_) rfl (by kernel_rfl) (by kernel_rfl) (by kernel_rfl) (fun _ _ _ h => h) (Or.inl ⟨by rfl, ?_⟩) (by assumption) ?_
        rotate_left
        · intro w hSw
          (try dsimp only at hSw)
          go_simp
          try with_reducible rfl
        try simp only [Act.put, List.setIfInBounds_toArray, List.set_cons_zero, List.set_cons_succ]
        refine wpAnyH_take (i := 31) (oi := { dst := some 107, op := Op.move (Operand.tmp 14), type := 23, pos := "law.go:179", after := #[{ on := 24, ground := Ground.guard }], guard := some (24, true) }) (v := ?_) rfl (by kernel_rfl) (by kernel_rfl) (by kernel_rfl) (fun _ _ _ h => h) (Or.inl ⟨by rfl, ?_⟩) (by assumption) ?_
        rotate_left
        · intro w hSw
          (try dsimp only at hSw)
          go_simp
          try with_reducible rfl
        try simp only [Act.put, List.setIfInBounds_toArray, List.set_cons_zero, List.set_cons_succ]
        refine wpAnyH_take (i := 32) (oi := { dst := some 108, op := Op.move (Operand.tmp 3), type := 22, pos := "law.go:179", after := #[{ on := 24, ground := Ground.guard }], guard := some (24, true) }) (v := ?_) rfl (by kernel_rfl) (by kernel_rfl) (by kernel_rfl) (fun _ _ _ h => h) (Or.inl ⟨by rfl, ?_⟩) (by assumption) ?_
        rotate_left
        · intro w hSw
          (try dsimp only at hSw)
          go_simp
          try with_reducible rfl
        try simp only [Act.put, List.setIfInBounds_toArray, List.set_cons_zero, List.set_cons_succ]
        refine wpAnyH_take (i := 33) (oi := { dst := some 109, op := Op.move (Operand.tmp 16), type := 3, pos := "law.go:179", after := #[{ on := 24, ground := Ground.guard }], guard := some (24, true) }) (v := ?_) rfl (by kernel_rfl) (by kernel_rfl) (by kernel_rfl) (fun _ _ _ h => h) (Or.inl ⟨by rfl, ?_⟩) (by assumption) ?_
        rotate_left
        · intro w hSw
          (try dsimp only at hSw)
          go_simp
          try with_reducible rfl
        try simp only [Act.put, List.setIfInBounds_toArray, List.set_cons_zero, List.set_cons_succ]
        refine wpAnyH_take (i := 34) (oi := { dst := some 110, op := Op.indexAddr 22 (Operand.tmp 108) (Operand.tmp 109), type := 0, pos := "law.go:179", after := #[{ on := 32, ground := Ground.data }, { on := 33, ground := Ground.data }, { on := 24, ground := Ground.guard }], guard := some (24, true) }) (v := ?_) rfl (by kernel_rfl) (by kernel_rfl) (by kernel_rfl) (fun _ _ _ h => h) (Or.inl ⟨by rfl, ?_⟩) (by assumption) ?_
        rotate_left
        · intro w hSw
          (try dsimp only at hSw)
          go_simp
          try with_reducible rfl
        try simp only [Act.put, List.setIfInBounds_toArray, List.set_cons_zero, List.set_cons_succ]
        refine wpAnyH_take (i := 35) (oi := { dst := some 111, op := Op.load 35 (Operand.tmp 110), type := 35, pos := "law.go:179", after := #[{ on := 34, ground := Ground.data }, { on := 24, ground := Ground.guard }], guard := some (24, true) }) (v := ?_) rfl (by kernel_rfl) (by kernel_rfl) (by kernel_rfl) (fun _ _ _ h => h) (Or.inl ⟨by rfl, ?_⟩) (by assumption) ?_
        rotate_left
        · intro w hSw
          (try dsimp only at hSw)
          go_simp
          try with_reducible rfl
        try simp only [Act.put, List.setIfInBounds_toArray, List.set_cons_zero, List.set_cons_succ]
        refine wpAnyH_ready (rs := [30]) (by kernel_rfl) (by simp) ?_
        refine AllReadyH.cons (o := { dst := some 106, op := Op.call { callee := Callee.value (Operand.func 19), args := #[Operand.tmp 101, Operand.tmp 105], argTypes := #[23, 35] }, type := 31, pos := "law.go:179", after := #[{ on := 25, ground := Ground.data }, { on := 29, ground := Ground.data }, { on := 24, ground := Ground.chain }, { on := 24, ground := Ground.guard }], guard := some (24, true) }) rfl (fun K hK => ?_) AllReadyH.nil
        go_simp
        go_at_call 19
        refine (HT3.out _ (by first | exact ⟨_, rfl⟩ | exact ⟨0, rfl⟩ | exact ⟨1, rfl⟩)).mono ?_
        rintro e v1 ⟨rfl, f1, z3⟩
        first
          | refine hK.out _ _ ?_ (fun hHeld => ?_)
          | (go_wp2_with fail; refine hK.out _ _ ?_ (fun hHeld => ?_))
        · exact z3
        clear hK K
        try simp only [Act.put, List.setIfInBounds_toArray, List.set_cons_zero, List.set_cons_succ]
        refine wpAnyH_ready (rs := [36]) (by kernel_rfl) (by simp) ?_
        refine AllReadyH.cons (o := { dst := some 112, op := Op.call { callee := Callee.value (Operand.func 19), args := #[Operand.tmp 107, Operand.tmp 111], argTypes := #[23, 35] }, type := 31, pos := "law.go:179", after := #[{ on := 31, ground := Ground.data }, { on := 35, ground := Ground.data }, { on := 30, ground := Ground.chain }, { on := 24, ground := Ground.guard }], guard := some (24, true) }) rfl (fun K hK => ?_) AllReadyH.nil
        go_simp
        go_at_call 19
        refine (HT4.out _ f1).mono ?_
        rintro e v2 ⟨rfl, f2, z4⟩
        first
          | refine hK.out _ _ ?_ (fun hHeld => ?_)
          | (go_wp2_with fail; refine hK.out _ _ ?_ (fun hHeld => ?_))
        · exact z4
        clear hK K
        try simp only [Act.put, List.setIfInBounds_toArray, List.set_cons_zero, List.set_cons_succ]
        refine wpAnyH_take (i := 37) (oi := { dst := some 113, op := Op.binOp BinOp.neq 31 (Operand.tmp 106) (Operand.tmp 112) 31, type := 4, pos := "law.go:179", after := #[{ on := 30, ground := Ground.data }, { on := 36, ground := Ground.data }, { on := 24, ground := Ground.guard }], guard := some (24, true) }) (v := ?_) rfl (by kernel_rfl) (by kernel_rfl) (by kernel_rfl) (fun _ _ _ h => h) (Or.inl ⟨by rfl, ?_⟩) (by assumption) ?_
        rotate_left
        · intro w hSw
          (try dsimp only at hSw)
          go_simp
          try with_reducible rfl
        try simp only [Act.put, List.setIfInBounds_toArray, List.set_cons_zero, List.set_cons_succ]
        refine wpAnyH_take (i := 38) (oi := { dst := some 114, op := Op.pick (Operand.tmp 100) (Operand.tmp 113) (Operand.const (Value.bool false)), type := 4, pos := "law.go:179", after := #[{ on := 24, ground := Ground.data }, { on := 37, ground := Ground.data }, { on := 19, ground := Ground.guard }], guard := some (19, false) }) (v := ?_) rfl (by kernel_rfl) (by kernel_rfl) (by kernel_rfl) (fun _ _ _ h => h) (Or.inl ⟨by rfl, ?_⟩) (by assumption) ?_
        rotate_left
        · intro w hSw
          (try dsimp only at hSw)
          go_simp
          try with_reducible rfl
        try simp only [Act.put, List.setIfInBounds_toArray, List.set_cons_zero, List.set_cons_succ]
        refine wpAnyH_take (i := 39) (oi := { dst := some 115, op := Op.pick (Operand.tmp 95) (Operand.const (Value.bool true)) (Operand.tmp 114), type := 4, pos := "law.go:179", after := #[{ on := 19, ground := Ground.data }, { on := 38, ground := Ground.data }], guard := none }) (v := ?_) rfl (by kernel_rfl) (by kernel_rfl) (by kernel_rfl) (fun _ _ _ h => h) (Or.inl ⟨by rfl, ?_⟩) (by assumption) ?_
        rotate_left
        · intro w hSw
          (try dsimp only at hSw)
          go_simp
          try with_reducible rfl
        try simp only [Act.put, List.setIfInBounds_toArray, List.set_cons_zero, List.set_cons_succ]
        refine wpAnyH_done (by kernel_rfl) ?_ _
        go_wp2
        go_roundw
        case rel => exact ⟨k + 1, sc, (sd.step x2).2, by omega, by go_num, HNX.out.1, HNX.out.2.1, HNX.out.2.2.1, HNX.out.2.2.2, f2⟩
        case measure => simp [intOf]; omega
    · have hkM : k = M := by omega
      subst hkM
      clear hk hkl
      have hnp : sc.acts.length ≤ 240 := by have := HC.out.1.few; omega
      obtain ⟨P1, hP1⟩ : ∃ P, P = sc.acts.length := ⟨_, rfl⟩
      obtain ⟨P2, hP2⟩ : ∃ P, P = sd.acts.length := ⟨_, rfl⟩
      have hs1 := same_any (Fam.two HF.out (j := 1) (k := 2) (by omega) (by omega) (by omega)) HC.out.2.1 rfl rfl
      have HSA := hide hs1
      clear hs1
      go_wp2_with fail
      refine HSA.out.mono ?_
      rintro e v1 ⟨rfl, hc1⟩
      have HFA := hide (HF.out.chg hc1)
      clear hc1
      have hs2 := same_any (Fam.two HFA.out (j := 0) (k := 3) (by omega) (by omega) (by omega)) HC.out.2.2.2 rfl rfl
      have HSB := hide hs2
      clear hs2
      go_wp2_with fail
      refine HSB.out.mono ?_
      rintro e v2 ⟨rfl, hc2⟩
      have HFB := hide (HFA.out.chg hc2)
      clear hc2
      have HP := hide (And.intro hP1 hP2)
      clear hnp hP1 hP2
      go_wp2_with fail
      refine (pending_own (Fam.one HFB.out (j := 1) (by omega))).mono ?_
      rintro e w8 ⟨rfl, rfl⟩
      rw [show (((sel sd sc sc sd 1).acts.length : Nat) : Int) = (P1 : Int) from by rw [HP.out.1]; rfl]
      go_wp2_with fail
      refine (pending_own (Fam.one HFB.out (j := 2) (by omega))).mono ?_
      rintro e w8 ⟨rfl, rfl⟩
      rw [show (((sel sd sc sc sd 2).acts.length : Nat) : Int) = (P1 : Int) from by rw [HP.out.1]; rfl]
      go_wp2_with fail
      refine (pending_own (Fam.one HFB.out (j := 0) (by omega))).mono ?_
      rintro e w8 ⟨rfl, rfl⟩
      rw [show (((sel sd sc sc sd 0).acts.length : Nat) : Int) = (P2 : Int) from by rw [HP.out.2]; rfl]
      go_wp2_with fail
      refine (pending_own (Fam.one HFB.out (j := 3) (by omega))).mono ?_
      rintro e w8 ⟨rfl, rfl⟩
      rw [show (((sel sd sc sc sd 3).acts.length : Nat) : Int) = (P2 : Int) from by rw [HP.out.2]; rfl]
      go_wp2_with fail
      refine (awake_any v2).mono ?_
      rintro e w9 ⟨rfl, hb⟩
      go_wp2
      go_ret
      exact ⟨rfl, HFB.out.below.trans (hb.mono HFB.out.below.size)⟩
end Go.Proofs.Ythcakinkioniaab
