/- Many disks beside one another. -/
import Derived.Test.YthcakinkioniaabLawApart
namespace Go.Proofs.Ythcakinkioniaab
open Go.RowKit Go.Deep Go.ChangeShapes

/-- As Own1; its closures too are new. -/
def Own1C (w0 : World) (g : Nat) (st : Dk) (w : World) : Prop := ∃ S C, DiskIs w S C g st ∧ (∀ i, S i → w0.heap.size ≤ i) ∧ (∀ i, C i → w0.heap.size ≤ i) ∧ Below w0.heap.size w0 w
section
variable {w0 w : World} {g : Nat} {st : Dk}
theorem Own1C.below (h : Own1C w0 g st w) : Below w0.heap.size w0 w := by
  obtain ⟨S, C, h1, h2, h3, h4⟩ := h
  exact h4
theorem Own1C.chg {w' : World} (h : Own1C w0 g st w) (hc : Chg w w' (fun _ => False)) : Own1C w0 g st w' := by
  obtain ⟨S, C, h1, h2, h3, h4⟩ := h
  exact ⟨S, C, h1.chg hc (fun _ _ h => h) (fun _ _ h => h), h2, h3, Chg.to_below h4 hc fun _ h => h.elim⟩
theorem Own1C.alloc (h : Own1C w0 g st w) (o : Obj) : Own1C w0 g st (w.alloc o) := h.chg (chg_alloc w o)
theorem Own1C.fresh {e : Ending} {w' : World} (h : Fresh w0 st e w') : ∃ g, e = .returned (.tuple #[.pointer (some ⟨g, 0, none⟩), .int .i64 0]) ∧ Own1C w0 g st w' := by
  obtain ⟨g, S, he, h1, h2, h3⟩ := h
  exact ⟨g, he, S, _, h1, h2, fun i hi => hi.elim, h3⟩
theorem does_ownC (h : Own1C w0 g st w) (hq : st.Calm) {op : Int} {name to : ByteArray} (h1 : name.size ≤ maxLen) (h2 : to.size ≤ maxLen) {at_ : Int} (h3 : I64 at_) {p : Option Addr} {m c : Nat} {b : List UInt8} (hb : By w (.slice p m c) b) (hbl : b.length ≤ 140737488355328) {n keep tear : Int} (h4 : I64 n) (h5 : I64 keep) (h6 : I64 tear) :
    Calls Try.prog 19 #[.pointer (some ⟨g, 0, none⟩), doV op name to at_ (.slice p m c) n keep tear] w fun e w' => e = .returned (.int .i64 ((st.doer op name.data.toList to.data.toList at_ b n keep tear).1 : Nat)) ∧ Own1C w0 g (st.doer op name.data.toList to.data.toList at_ b n keep tear).2 w' := by
  obtain ⟨S, C, k1, k2, k3, k4⟩ := h
  refine (does_disk k1 hq h1 h2 h3 hb hbl h4 h5 h6).mono ?_
  rintro e w' ⟨he, S', C', q1, q2, q3, q4⟩
  have hs := k4.size
  refine ⟨he, S', C', q1, fun i hi => ?_, fun i hi => ?_, Chg.to_below k4 q2 k2⟩
  · rcases q3 i hi with h | h
    · exact k2 i h
    · omega
  · rcases q4 i hi with h | h
    · exact k3 i h
    · omega
end

/-- What 'made' gives. -/
def MadeC (w : World) (room : Int) (l : List Rec) (e : Ending) (w' : World) : Prop := ∃ g, e = .returned (.tuple #[.pointer (some ⟨g, 0, none⟩), .bool (isShort l)]) ∧ Own1C w g (if isShort l then plays (Dk.new (roomOf room)) l else Dk.new (roomOf room)) w'

set_option maxRecDepth 200000 in
set_option maxHeartbeats 4000000 in
theorem made_lawC {w : World} {room : Int} {p : Option Addr} {len cap : Nat} {l : List Rec} (h : Dos w p len cap l) : Calls Try.prog 12 #[.int .i64 room, .slice p len cap] w (MadeC w room l) := by
  have hl := h.len_
  have hcap := h.cap_
  have hmax := h.max_
  obtain ⟨r1, r2⟩ := roomOf_ok room
  have H := hide h
  have HL := hide hl
  have HR := hide r1
  unfold maxLen at hmax
  clear h hl r1
  go_enter Try.func12, Try.ntmps12
  go_wp2_with fail
  rw [← HR.out]
  refine (new_any w (room := roomOf room) (by omega)).mono ?_
  rintro e w1 hf
  obtain ⟨g, rfl, hd0⟩ := Own1C.fresh hf
  clear hf
  have hb1 : Chg w w1 (fun _ => False) := Chg.of_below hd0.below _
  have hsh := short_any (H.out.chg hb1)
  rcases hs : isShort l with _ | _
  · rw [hs] at hsh
    have HSH := hide hsh
    have HD0 := hide hd0
    clear hsh hd0 hb1
    go_wp2_with fail
    refine HSH.out.mono ?_
    rintro e w2 ⟨rfl, hc2⟩
    have HD2 := hide (HD0.out.chg hc2)
    clear hc2
    go_wp2
    go_ret2
    exact ⟨g, by rw [hs]; rfl, by rw [if_neg (by rw [hs]; decide)]; exact HD2.out⟩
  · rw [hs] at hsh
    have HSH := hide hsh
    have HD0 := hide hd0
    clear hsh hd0 hb1
    go_wp2_with fail
    refine HSH.out.mono ?_
    rintro e w2 ⟨rfl, hc2⟩
    have HD2 := hide (HD0.out.chg hc2)
    clear hc2
    go_wp2_with fail
    have hlen : len ≤ 120 := by
      unfold isShort at hs
      simp only [Bool.and_eq_true, decide_eq_true_eq] at hs
      have := HL.out
      omega
    have HS := hide hs
    clear hs
    go_loopw [28] (fun i wr => ∃ k : Nat, k ≤ len ∧ i = .int .i64 k ∧ Own1C w g (plays (Dk.new (roomOf room)) (l.take k)) wr) (fun i _ => len - (intOf i).toNat)
    case atStart => exact ⟨0, by omega, rfl, HD2.out⟩
    case round =>
      obtain ⟨k, hk, rfl, hown⟩ := hrel
      by_cases hkl : (k : Int) < (len : Int)
      · obtain ⟨a, o, rfl, hx⟩ := (H.out.chg (Chg.of_below hown.below _)).at_ (by omega)
        have hget : l[k]? = some (l[k]'(by have := HL.out; omega)) := List.getElem?_eq_getElem _
        obtain ⟨x, hxe⟩ : ∃ x, x = l[k]'(by have := HL.out; omega) := ⟨_, rfl⟩
        rw [← hxe] at hget
        obtain ⟨q, m, c, hr⟩ := hx k x hget
        have c0 := hr.c0
        have c1 := hr.c1
        have c2 := hr.c2
        have c3 := hr.c3
        have c4 := hr.c4
        have c5 := hr.c5
        have c6 := hr.c6
        have c7 := hr.c7
        have hcal : ∀ (i : Nat) (x : Rec), l[i]? = some x → I64 x.keep ∧ I64 x.tear := fun i x hi => by
          obtain ⟨_, _, _, hr⟩ := hx i x hi
          exact ⟨hr.is_.h5, hr.is_.h6⟩
        have hdoes := does_ownC (hown.alloc (.cells #[.int .i64 x.op, .string x.name, .string x.to, .int .i64 x.at_, .slice q m c, .int .i64 x.n, .int .i64 x.keep, .int .i64 x.tear] 35)) ((plays_calm (new_calm _) hcal k (by have := HL.out; omega)).calm (by omega)) (op := x.op) hr.is_.h1 hr.is_.h2 hr.is_.h3 (hr.is_.hb.chg (chg_alloc wr _) (.inr fun _ _ h => h)) (by have := isShort_b HS.out hget; omega) hr.is_.h4 hr.is_.h5 hr.is_.h6
        have HDOES := hide hdoes
        have HGET := hide hget
        clear hdoes hget hxe hr hx hcal hown
        go_wp2_with fail
        have hd := HDOES.out
        unfold doV at hd
        refine hd.mono ?_
        rintro e w3 ⟨rfl, hown3⟩
        have HO := hide hown3
        clear hd hown3
        go_wp2
        go_roundw
        case rel => exact ⟨k + 1, by omega, by go_num, by rw [plays_succ HGET.out]; exact HO.out⟩
        case measure => simp [intOf]; omega
      · have hfin : Own1C w g (plays (Dk.new (roomOf room)) l) wr := by
          rw [List.take_of_length_le (by have := HL.out; omega)] at hown
          exact hown
        have HF := hide hfin
        clear hown hfin
        go_wp2
        go_ret2
        exact ⟨g, by rw [HS.out]; rfl, by rw [if_pos HS.out]; exact HF.out⟩

/-- Some disks, apart from one another. -/
def Fam (w0 : World) (n : Nat) (g : Nat → Nat) (s : Nat → Dk) (w : World) : Prop := ∃ S C : Nat → Nat → Prop, (∀ j, j < n → DiskIs w (S j) (C j) (g j) (s j)) ∧ (∀ j i, j < n → S j i → w0.heap.size ≤ i) ∧ (∀ j k i, j < n → k < n → j ≠ k → S j i → ¬ S k i ∧ ¬ C k i) ∧ Below w0.heap.size w0 w
def upd {α : Type} (s : Nat → α) (j : Nat) (v : α) : Nat → α := fun k => if k = j then v else s k
section
variable {w0 w : World} {n : Nat} {g : Nat → Nat} {s : Nat → Dk}
theorem Fam.below (h : Fam w0 n g s w) : Below w0.heap.size w0 w := by
  obtain ⟨S, C, h1, h2, h3, h4⟩ := h
  exact h4
theorem Fam.chg {w' : World} (h : Fam w0 n g s w) (hc : Chg w w' (fun _ => False)) : Fam w0 n g s w' := by
  obtain ⟨S, C, h1, h2, h3, h4⟩ := h
  exact ⟨S, C, fun j hj => (h1 j hj).chg hc (fun _ _ h => h) (fun _ _ h => h), h2, h3, Chg.to_below h4 hc fun _ h => h.elim⟩
theorem Fam.one (h : Fam w0 n g s w) {j : Nat} (hj : j < n) : Own1 w0 (g j) (s j) w := by
  obtain ⟨S, C, h1, h2, h3, h4⟩ := h
  exact ⟨S j, C j, h1 j hj, fun i hi => h2 j i hj hi, h4⟩
theorem Fam.two (h : Fam w0 n g s w) {j k : Nat} (hj : j < n) (hk : k < n) (hjk : j ≠ k) : Two w0 w (g j) (s j) (g k) (s k) := by
  obtain ⟨S, C, h1, h2, h3, h4⟩ := h
  exact ⟨S j, C j, S k, C k, h1 j hj, h1 k hk, fun i hi => ⟨h2 j i hj hi, h3 j k i hj hk hjk hi⟩, fun i hi => ⟨h2 k i hk hi, h3 k j i hk hj hjk.symm hi⟩, h4⟩
theorem Fam.call {f : Nat} {args : Array Value} {r : Nat} {st' : Dk} (h : Fam w0 n g s w) {j : Nat} (hj : j < n)
    (hcall : ∀ S C, DiskIs w S C (g j) (s j) → Calls Try.prog f args w fun e w' => e = .returned (.int .i64 (r : Nat)) ∧ DPost w S C (g j) st' w') :
    Calls Try.prog f args w fun e w' => e = .returned (.int .i64 (r : Nat)) ∧ Fam w0 n g (upd s j st') w' := by
  obtain ⟨S, C, h1, h2, h3, h4⟩ := h
  refine (hcall (S j) (C j) (h1 j hj)).mono ?_
  rintro e w' ⟨he, S', C', k1, k2, k3, k4⟩
  have hs := h4.size
  refine ⟨he, fun k => if k = j then S' else S k, fun k => if k = j then C' else C k, fun k hk => ?_, fun k i hk hi => ?_, fun a b i ha hb hab hi => ?_, Chg.to_below h4 k2 fun i hi => h2 j i hj hi⟩
  · by_cases hkj : k = j
    · subst hkj
      simpa [upd] using k1
    · simp only [upd, if_neg hkj]
      exact (h1 k hk).chg k2 (fun i hi hji => (h3 j k i hj hk (fun e => hkj e.symm) hji).1 hi) (fun i hi hji => (h3 j k i hj hk (fun e => hkj e.symm) hji).2 hi)
  · by_cases hkj : k = j
    · subst hkj
      simp only [if_true] at hi
      rcases k3 i hi with h | h
      · exact h2 k i hk h
      · omega
    · simp only [if_neg hkj] at hi
      exact h2 k i hk hi
  · by_cases haj : a = j
    · subst haj
      have hba : b ≠ a := fun e => hab e.symm
      simp only [if_true] at hi
      simp only [if_neg hba]
      rcases k3 i hi with h | h
      · exact h3 a b i ha hb hab h
      · exact ⟨fun hj => by have := (h1 b hb).sap i hj; omega, fun hj => by have := (h1 b hb).cap i hj; omega⟩
    · simp only [if_neg haj] at hi
      by_cases hbj : b = j
      · subst hbj
        simp only [if_true]
        have hl := (h1 a ha).sap i hi
        refine ⟨fun hj => ?_, fun hj => ?_⟩
        · rcases k3 i hj with h | h
          · exact (h3 a b i ha hb hab hi).1 h
          · omega
        · rcases k4 i hj with h | h
          · exact (h3 a b i ha hb hab hi).2 h
          · omega
      · simp only [if_neg hbj]
        exact h3 a b i ha hb hab hi
theorem Fam.add {w' : World} {g' : Nat} {st : Dk} (h : Fam w0 n g s w) (hn : Own1C w g' st w') : Fam w0 (n + 1) (upd g n g') (upd s n st) w' := by
  obtain ⟨S, C, h1, h2, h3, h4⟩ := h
  obtain ⟨S', C', k1, k2, k3, k4⟩ := hn
  have hs := h4.size
  have hc : Chg w w' (fun _ => False) := Chg.of_below k4 _
  refine ⟨fun k => if k = n then S' else S k, fun k => if k = n then C' else C k, fun k hk => ?_, fun k i hk hi => ?_, fun a b i ha hb hab hi => ?_, Chg.to_below h4 hc fun _ h => h.elim⟩
  · by_cases hkj : k = n
    · subst hkj
      simpa [upd] using k1
    · simp only [upd, if_neg hkj]
      exact (h1 k (by omega)).chg hc (fun _ _ h => h) (fun _ _ h => h)
  · by_cases hkj : k = n
    · subst hkj
      simp only [if_true] at hi
      have := k2 i hi
      omega
    · simp only [if_neg hkj] at hi
      exact h2 k i (by omega) hi
  · by_cases haj : a = n
    · subst haj
      have hba : b ≠ a := fun e => hab e.symm
      simp only [if_true] at hi
      simp only [if_neg hba]
      have h5 := k2 i hi
      exact ⟨fun hj => by have := (h1 b (by omega)).sap i hj; omega, fun hj => by have := (h1 b (by omega)).cap i hj; omega⟩
    · simp only [if_neg haj] at hi
      have hl := (h1 a (by omega)).sap i hi
      by_cases hbj : b = n
      · subst hbj
        simp only [if_true]
        exact ⟨fun hj => by have := k2 i hj; omega, fun hj => by have := k3 i hj; omega⟩
      · simp only [if_neg hbj]
        exact h3 a b i (by omega) (by omega) hab hi
theorem Two.fam {g1 g2 : Nat} {s1 s2 : Dk} (h : Two w0 w g1 s1 g2 s2) : Fam w0 2 (fun k => if k = 0 then g1 else g2) (fun k => if k = 0 then s1 else s2) w := by
  obtain ⟨S1, C1, S2, C2, h1, h2, h3, h4, h5⟩ := h
  refine ⟨fun k => if k = 0 then S1 else S2, fun k => if k = 0 then C1 else C2, fun j hj => ?_, fun j i hj hi => ?_, fun a b i ha hb hab hi => ?_, h5⟩
  · by_cases h0 : j = 0
    · subst h0; exact h1
    · simp only [if_neg h0]; exact h2
  · by_cases h0 : j = 0
    · subst h0; exact (h3 i hi).1
    · simp only [if_neg h0] at hi; exact (h4 i hi).1
  · by_cases h0 : a = 0
    · subst h0
      have hb0 : b ≠ 0 := fun e => hab e.symm
      simp only [if_neg hb0]
      exact (h3 i hi).2
    · simp only [if_neg h0] at hi
      have hb0 : b = 0 := by omega
      subst hb0
      exact (h4 i hi).2
end

/-- Four disks. -/
def sel {α : Type} (a b c d : α) : Nat → α := fun k => if k = 0 then a else if k = 1 then b else if k = 2 then c else d
def Four (w0 : World) (g0 : Nat) (s0 : Dk) (g1 : Nat) (s1 : Dk) (g2 : Nat) (s2 : Dk) (g3 : Nat) (s3 : Dk) (w : World) : Prop := Fam w0 4 (sel g0 g1 g2 g3) (sel s0 s1 s2 s3) w
theorem Fam.four {w0 w : World} {g0 g1 g2 g3 : Nat} {s0 s1 s2 s3 : Dk} (h : Fam w0 4 (upd (upd (fun k => if k = 0 then g0 else g1) 2 g2) 3 g3) (upd (upd (fun k => if k = 0 then s0 else s1) 2 s2) 3 s3) w) : Four w0 g0 s0 g1 s1 g2 s2 g3 s3 w := by
  obtain ⟨S, C, h1, h2, h3, h4⟩ := h
  refine ⟨S, C, fun j hj => ?_, h2, h3, h4⟩
  have := h1 j hj
  rcases (show j = 0 ∨ j = 1 ∨ j = 2 ∨ j = 3 by omega) with rfl | rfl | rfl | rfl
  all_goals exact this
theorem sel_upd0 {α : Type} (a b c d x : α) : upd (sel a b c d) 0 x = sel x b c d := by
  funext k
  unfold upd sel
  by_cases h : k = 0
  · rw [if_pos h, if_pos h]
  · rw [if_neg h, if_neg h, if_neg h]
theorem sel_upd1 {α : Type} (a b c d x : α) : upd (sel a b c d) 1 x = sel a x c d := by
  funext k
  unfold upd sel
  by_cases h : k = 1
  · rw [if_pos h, if_neg (by omega), if_pos h]
  · rw [if_neg h, if_neg h]
    by_cases h0 : k = 0
    · rw [if_pos h0, if_pos h0]
    · rw [if_neg h0, if_neg h0, if_neg h]
theorem sel_upd2 {α : Type} (a b c d x : α) : upd (sel a b c d) 2 x = sel a b x d := by
  funext k
  unfold upd sel
  by_cases h : k = 2
  · subst h; rfl
  · rw [if_neg h, if_neg h, if_neg h]
theorem sel_upd3 {α : Type} (a b c d x : α) : ∀ k, k < 4 → upd (sel a b c d) 3 x k = sel a b c x k := fun k hk => by
  rcases (show k = 0 ∨ k = 1 ∨ k = 2 ∨ k = 3 by omega) with rfl | rfl | rfl | rfl
  all_goals rfl
section
variable {w0 w : World} {g0 g1 g2 g3 : Nat} {s0 s1 s2 s3 : Dk} {f : Nat} {args : Array Value} {r : Nat} {st' : Dk}
theorem Four.call0 (h : Four w0 g0 s0 g1 s1 g2 s2 g3 s3 w) (hcall : ∀ S C, DiskIs w S C g0 s0 → Calls Try.prog f args w fun e w' => e = .returned (.int .i64 (r : Nat)) ∧ DPost w S C g0 st' w') :
    Calls Try.prog f args w fun e w' => e = .returned (.int .i64 (r : Nat)) ∧ Four w0 g0 st' g1 s1 g2 s2 g3 s3 w' :=
  (Fam.call h (j := 0) (by omega) hcall).mono fun _ _ hp => ⟨hp.1, by have := hp.2; rw [sel_upd0] at this; exact this⟩
theorem Four.call1 (h : Four w0 g0 s0 g1 s1 g2 s2 g3 s3 w) (hcall : ∀ S C, DiskIs w S C g1 s1 → Calls Try.prog f args w fun e w' => e = .returned (.int .i64 (r : Nat)) ∧ DPost w S C g1 st' w') :
    Calls Try.prog f args w fun e w' => e = .returned (.int .i64 (r : Nat)) ∧ Four w0 g0 s0 g1 st' g2 s2 g3 s3 w' :=
  (Fam.call h (j := 1) (by omega) hcall).mono fun _ _ hp => ⟨hp.1, by have := hp.2; rw [sel_upd1] at this; exact this⟩
theorem Four.call2 (h : Four w0 g0 s0 g1 s1 g2 s2 g3 s3 w) (hcall : ∀ S C, DiskIs w S C g2 s2 → Calls Try.prog f args w fun e w' => e = .returned (.int .i64 (r : Nat)) ∧ DPost w S C g2 st' w') :
    Calls Try.prog f args w fun e w' => e = .returned (.int .i64 (r : Nat)) ∧ Four w0 g0 s0 g1 s1 g2 st' g3 s3 w' :=
  (Fam.call h (j := 2) (by omega) hcall).mono fun _ _ hp => ⟨hp.1, by have := hp.2; rw [sel_upd2] at this; exact this⟩
theorem Four.call3 (h : Four w0 g0 s0 g1 s1 g2 s2 g3 s3 w) (hcall : ∀ S C, DiskIs w S C g3 s3 → Calls Try.prog f args w fun e w' => e = .returned (.int .i64 (r : Nat)) ∧ DPost w S C g3 st' w') :
    Calls Try.prog f args w fun e w' => e = .returned (.int .i64 (r : Nat)) ∧ Four w0 g0 s0 g1 s1 g2 s2 g3 st' w' :=
  (Fam.call h (j := 3) (by omega) hcall).mono fun _ w' hp => ⟨hp.1, by
    obtain ⟨S, C, h1, h2, h3, h4⟩ := hp.2
    exact ⟨S, C, fun j hj => by have := h1 j hj; rw [sel_upd3 _ _ _ _ _ _ hj] at this; exact this, h2, h3, h4⟩⟩
end
end Go.Proofs.Ythcakinkioniaab
