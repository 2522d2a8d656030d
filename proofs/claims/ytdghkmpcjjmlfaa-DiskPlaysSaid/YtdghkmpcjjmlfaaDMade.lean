/- A disk behind calls. -/
import Derived.Test.YtdghkmpcjjmlfaaDDos
namespace Go.Proofs.Ytdghkmpcjjmlfaa
open Go.RowKit Go.Deep Go.ChangeShapes

def shortN (l : List Rec) (i : Nat) : Nat := ((l.take i).map fun x => min x.b.length 32769).sum
theorem shortN_succ {l : List Rec} {i : Nat} {x : Rec} (h : l[i]? = some x) : shortN l (i + 1) = shortN l i + min x.b.length 32769 := by
  unfold shortN
  rw [List.take_add_one, h]
  simp
theorem shortN_le (l : List Rec) : ∀ i, shortN l i ≤ i * 32769
  | 0 => by simp [shortN]
  | i + 1 => by
    have := shortN_le l i
    rcases h : l[i]? with _ | x
    · have e : shortN l (i + 1) = shortN l i := by
        unfold shortN
        rw [List.take_add_one, h]
        simp
      omega
    · rw [shortN_succ h]
      omega
theorem le_sum_of_mem {l : List Nat} {a : Nat} (h : a ∈ l) : a ≤ l.sum := by
  induction l with
  | nil => cases h
  | cons b r ih =>
    rw [List.sum_cons]
    rcases List.mem_cons.1 h with rfl | h
    · omega
    · have := ih h
      omega
def isShort (l : List Rec) : Bool := decide (l.length ≤ 120) && decide (shortN l (min l.length 121) ≤ 32768)
theorem isShort_b {l : List Rec} (h : isShort l = true) {i : Nat} {x : Rec} (hx : l[i]? = some x) : x.b.length ≤ 32768 := by
  unfold isShort at h
  simp only [Bool.and_eq_true, decide_eq_true_eq] at h
  have hlt : i < l.length := (List.getElem?_eq_some_iff.1 hx).1
  have e : min l.length 121 = l.length := by omega
  rw [e] at h
  have hmem : min x.b.length 32769 ≤ shortN l l.length := by
    unfold shortN
    rw [List.take_length]
    have : x ∈ l := List.mem_of_getElem? hx
    exact le_sum_of_mem (List.mem_map.2 ⟨x, this, rfl⟩)
  omega

/-- The fuse's numbers are numbers, and few acts pend. -/
structure Dk.CalmN (st : Dk) (i : Nat) : Prop where
  k : I64 st.keep
  t : I64 st.tear
  few : st.acts.length ≤ i
theorem Dk.CalmN.calm {st : Dk} {i : Nat} (h : st.CalmN i) (hi : i < 1000000) : st.Calm := ⟨h.k.2, h.k.1, h.t.2, h.t.1, by have := h.few; omega⟩
theorem Dk.CalmN.mono {st : Dk} {i j : Nat} (h : st.CalmN i) (hi : i ≤ j) : st.CalmN j := ⟨h.k, h.t, Nat.le_trans h.few hi⟩
theorem i64_zero : I64 0 := ⟨by omega, by omega⟩
theorem Dk.CalmN.fall (st : Dk) (keep tear : Int) (i : Nat) : (st.fall keep tear).CalmN i := ⟨i64_zero, i64_zero, Nat.zero_le _⟩
theorem Dk.CalmN.perf {st : Dk} {i : Nat} (h : st.CalmN i) (d : Deed) : (st.perf d).2.CalmN (i + 1) := by
  unfold Dk.perf
  split
  · exact .fall _ _ _ _
  · refine ⟨h.k, h.t, ?_⟩
    show (st.acts ++ [d]).length ≤ i + 1
    have := h.few
    simp
    exact this
theorem Dk.CalmN.write {st : Dk} {i : Nat} (h : st.CalmN i) (k : List UInt8) (a : Int) (b : List UInt8) : (st.write k a b).2.CalmN (i + 1) := by
  have h' := h.mono (Nat.le_succ i)
  unfold Dk.write
  split
  · exact h'
  · split
    · split
      · exact h'
      · split
        · exact h'
        · split
          · exact h'
          · exact h.perf _
    · split
      · exact h'
      · split
        · exact h'
        · exact h.perf _
theorem Dk.CalmN.trim {st : Dk} {i : Nat} (h : st.CalmN i) (k : List UInt8) (a : Int) : (st.trim k a).2.CalmN (i + 1) := by
  have h' := h.mono (Nat.le_succ i)
  unfold Dk.trim
  split
  · exact h'
  · split
    · exact h'
    · split
      · exact h'
      · exact h.perf _
theorem Dk.CalmN.move {st : Dk} {i : Nat} (h : st.CalmN i) (k t : List UInt8) : (st.move k t).2.CalmN (i + 1) := by
  have h' := h.mono (Nat.le_succ i)
  unfold Dk.move
  split
  · exact h'
  · split
    · exact h'
    · split
      · exact h'
      · exact h.perf _
theorem Dk.CalmN.drop {st : Dk} {i : Nat} (h : st.CalmN i) (k : List UInt8) : (st.drop k).2.CalmN (i + 1) := by
  have h' := h.mono (Nat.le_succ i)
  unfold Dk.drop
  split
  · exact h'
  · split
    · exact h'
    · exact h.perf _
theorem Dk.CalmN.sync {st : Dk} {i : Nat} (h : st.CalmN i) : st.sync.2.CalmN (i + 1) := by
  have h' := h.mono (Nat.le_succ i)
  unfold Dk.sync
  split
  · exact h'
  · split
    · exact .fall _ _ _ _
    · exact ⟨h.k, h.t, Nat.zero_le _⟩
theorem Dk.CalmN.arm {st : Dk} {i : Nat} (h : st.CalmN i) {n keep tear : Int} (hk : I64 keep) (ht : I64 tear) : (st.arm n keep tear).2.CalmN i := by
  unfold Dk.arm
  split
  · exact h
  · exact ⟨hk, ht, h.few⟩
theorem Dk.CalmN.crash {st : Dk} {i : Nat} (h : st.CalmN i) (keep tear : Int) : (st.crash keep tear).2.CalmN i := by
  unfold Dk.crash
  split
  · exact h
  · exact .fall _ _ _ _
theorem Dk.CalmN.start {st : Dk} {i : Nat} (h : st.CalmN i) : st.start.CalmN i := ⟨h.k, h.t, h.few⟩

def Dk.step (st : Dk) (x : Rec) : Nat × Dk := st.doer x.op x.name.data.toList x.to.data.toList x.at_ x.b x.n x.keep x.tear
theorem Dk.CalmN.step {st : Dk} {i : Nat} (h : st.CalmN i) (x : Rec) (hk : I64 x.keep) (ht : I64 x.tear) : (st.step x).2.CalmN (i + 1) := by
  unfold Dk.step Dk.doer
  split
  · exact h.trim _ _
  · split
    · exact h.move _ _
    · split
      · exact h.drop _
      · split
        · exact h.sync
        · split
          · exact (h.arm hk ht).mono (Nat.le_succ i)
          · split
            · exact (h.crash _ _).mono (Nat.le_succ i)
            · split
              · exact h.start.mono (Nat.le_succ i)
              · exact h.write _ _ _
def plays (st : Dk) (l : List Rec) : Dk := l.foldl (fun st x => (st.step x).2) st
theorem plays_succ {st : Dk} {l : List Rec} {i : Nat} {x : Rec} (h : l[i]? = some x) : plays st (l.take (i + 1)) = ((plays st (l.take i)).step x).2 := by
  unfold plays
  rw [List.take_add_one, h, List.foldl_append]
  rfl

set_option maxRecDepth 200000 in
set_option maxHeartbeats 4000000 in
theorem short_any {w : World} {p : Option Addr} {len cap : Nat} {l : List Rec} (h : Dos w p len cap l) : Calls Try.prog 6 #[.slice p len cap] w fun e w' => e = .returned (.bool (isShort l)) ∧ Chg w w' (fun _ => False) := by
  have hl := h.len_
  have hcap := h.cap_
  have hmax := h.max_
  have H := hide h
  have HL := hide hl
  clear h hl
  unfold maxLen at hmax
  go_enter Try.func6, Try.ntmps6
  go_wp2_with fail
  go_loopw [3, 4] (fun n i wr => ∃ k : Nat, k ≤ min len 121 ∧ n = .int .i64 (shortN l k : Nat) ∧ i = .int .i64 k ∧ wr = w) (fun _ i _ => 121 - (intOf i).toNat)
  case atStart => exact ⟨0, by omega, by simp [shortN], rfl, rfl⟩
  case round =>
    obtain ⟨k, hk, rfl, rfl, rfl⟩ := hrel
    have hsn := shortN_le l k
    obtain ⟨sn, hsn2⟩ : ∃ sn, sn = shortN l k := ⟨_, rfl⟩
    rw [← hsn2] at hsn ⊢
    have HSN := hide hsn2
    have hsi : (sn : Int) ≤ 121 * 32769 := by omega
    clear hsn2 hsn
    by_cases hkl : k < len ∧ k ≤ 120
    · obtain ⟨h1, h2⟩ := hkl
      have h1i : (k : Int) < (len : Int) := by omega
      have h2i : (k : Int) ≤ 120 := by omega
      obtain ⟨g, o, rfl, hx⟩ := H.out.at_ (by omega)
      have hget : l[k]? = some (l[k]'(by have := HL.out; omega)) := List.getElem?_eq_getElem _
      obtain ⟨x, hxe⟩ : ∃ x, x = l[k]'(by have := HL.out; omega) := ⟨_, rfl⟩
      rw [← hxe] at hget
      obtain ⟨q, m, c, hr⟩ := hx k x hget
      have hc4 := hr.c4
      have hm := hr.is_.hb.len.1
      have hmm := hr.is_.hb.lenMax
      have HM := hide (hm.trans (show x.b.length = x.b.length from rfl))
      have HGET := hide hget
      unfold maxLen at hmm
      clear hr hx hget hxe hm
      go_wp2
      all_goals
        go_roundw
        case rel =>
          refine ⟨k + 1, by omega, ?_, by go_num, by trivial⟩
          rw [shortN_succ HGET.out, ← HSN.out, ← HM.out]
          first | rfl | (congr 1; omega) | (congr 1; simp; omega)
        case measure => simp [intOf]; omega
    · have hmin : min l.length 121 = k := by have := HL.out; omega
      have hres : isShort l = (decide ((len : Int) ≤ 120) && decide ((sn : Int) ≤ 32768)) := by
        unfold isShort
        rw [hmin, HSN.out, HL.out]
        congr 1
        · simp; omega
        · simp; omega
      have hkk : ¬ ((k : Int) < (len : Int)) ∨ ((k : Int) < (len : Int) ∧ ¬ (k : Int) ≤ 120) := by omega
      have HRES := hide hres
      clear hmin hres hkl
      rcases hkk with h1 | ⟨h1, h2⟩
      all_goals
        go_wp2
        all_goals
          go_ret
          refine ⟨?_, Chg.refl _ _⟩
          rw [HRES.out]
          simp_all
          try (intro hh; omega)
/-- The room of a law's disk. -/
def roomOf (room : Int) : Nat := (wrap64 ((IntKind.u64.wrap room).tmod 1048576)).toNat
theorem roomOf_ok (room : Int) : (roomOf room : Int) = wrap64 ((IntKind.u64.wrap room).tmod 1048576) ∧ roomOf room ≤ 1048576 := by
  have h1 : 0 ≤ IntKind.u64.wrap room := by
    rw [IntKind.wrap_u64]
    omega
  obtain ⟨x, hx⟩ : ∃ x : Nat, IntKind.u64.wrap room = x := ⟨(IntKind.u64.wrap room).toNat, by omega⟩
  have h2 : (IntKind.u64.wrap room).tmod 1048576 = ((x % 1048576 : Nat) : Int) := by
    rw [hx]
    exact Int.ofNat_tmod x 1048576
  have h3 : wrap64 ((x % 1048576 : Nat) : Int) = ((x % 1048576 : Nat) : Int) := by
    have : x % 1048576 < 1048576 := Nat.mod_lt _ (by omega)
    unfold wrap64
    omega
  unfold roomOf
  rw [h2, h3]
  have : x % 1048576 < 1048576 := Nat.mod_lt _ (by omega)
  omega

/-- What 'made' gives. -/
def Made (w : World) (room : Int) (l : List Rec) (e : Ending) (w' : World) : Prop := ∃ g, e = .returned (.tuple #[.pointer (some ⟨g, 0, none⟩), .bool (isShort l)]) ∧ Own1 w g (if isShort l then plays (Dk.new (roomOf room)) l else Dk.new (roomOf room)) w'

theorem new_calm (r : Nat) : (Dk.new r).CalmN 0 := ⟨i64_zero, i64_zero, Nat.zero_le _⟩
theorem plays_calm {st : Dk} (h : st.CalmN 0) {l : List Rec} (hx : ∀ (i : Nat) (x : Rec), l[i]? = some x → I64 x.keep ∧ I64 x.tear) : ∀ i, i ≤ l.length → (plays st (l.take i)).CalmN i
  | 0, _ => by simpa [plays] using h
  | i + 1, hi => by
    have hg : l[i]? = some l[i] := List.getElem?_eq_getElem (by omega)
    rw [plays_succ hg]
    exact (plays_calm h hx i (by omega)).step _ (hx i _ hg).1 (hx i _ hg).2

end Go.Proofs.Ytdghkmpcjjmlfaa
