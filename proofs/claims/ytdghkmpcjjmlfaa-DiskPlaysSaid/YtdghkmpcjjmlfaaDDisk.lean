/- A disk in memory. -/
import Derived.Test.YtdghkmpcjjmlfaaDAct
namespace Go.Proofs.Ytdghkmpcjjmlfaa
open Go.RowKit

/-- The pending acts in memory: a row of closures and sizes. -/
structure ActsIs (w : World) (C : Nat → Prop) (a : Value) (ds : List Deed) (xs : List Value) : Prop where
  row : w.ownsRow 0 83 2 a ds.length xs
  none_ : ds = [] → a = .slice none 0 0
  each : ∀ (i : Nat) (d : Deed), ds[i]? = some d → ∃ f cs, xs[i * 2]? = some (.func (.func f) #[] cs) ∧ xs[i * 2 + 1]? = some (.int .i64 (d.size : Nat)) ∧ DeedAt w C f cs d

theorem ActsIs.nil (w : World) (C : Nat → Prop) : ActsIs w C (.slice none 0 0) [] [] := ⟨World.ownsRow_nil _ _ _ _, fun _ => rfl, fun i d h => by simp at h⟩
theorem ActsIs.chg {w w' : World} {C T : Nat → Prop} {a : Value} {ds : List Deed} {xs : List Value} (h : ActsIs w C a ds xs) (hc : Chg w w' T) (hd : ∀ i, C i → ¬ T i) (ha : ∀ i, a.ownBlock = some i → ¬ T i) : ActsIs w' C a ds xs :=
  ⟨row_chg h.row hc ha, h.none_, fun i d hi => by
    obtain ⟨f, cs, h1, h2, h3⟩ := h.each i d hi
    exact ⟨f, cs, h1, h2, h3.chg hc hd⟩⟩
theorem ActsIs.mono {w : World} {C C' : Nat → Prop} {a : Value} {ds : List Deed} {xs : List Value} (h : ActsIs w C a ds xs) (hd : ∀ i, C i → C' i) : ActsIs w C' a ds xs :=
  ⟨h.row, h.none_, fun i d hi => by
    obtain ⟨f, cs, h1, h2, h3⟩ := h.each i d hi
    exact ⟨f, cs, h1, h2, h3.mono hd⟩⟩

/-- A disk, plainly. -/
structure Dk where
  room : Nat
  down : Bool
  last : Fl
  acts : List Deed
  fn : Nat
  keep : Int
  tear : Int

def runs (F : Fl) (ds : List Deed) : Fl := ds.foldl (fun F d => d.run F 0) F
def Dk.seen (st : Dk) : Fl := runs st.last st.acts
def sizes (ds : List Deed) : Nat := (ds.map Deed.size).sum
def Dk.used (st : Dk) : Nat := total st.last + sizes st.acts

/-- What every disk keeps. -/
structure Dk.Ok (st : Dk) : Prop where
  rises : Rises st.last
  fits : ∀ (i : Nat) (d : Deed), st.acts[i]? = some d → d.fits (runs st.last (st.acts.take i))
  few : ∀ i, i ≤ st.acts.length → (runs st.last (st.acts.take i)).length ≤ 4096
  room : st.used ≤ st.room
  most : st.room ≤ 16777216
  idle : st.down = true → st.acts = []
  many : st.acts.length ≤ 1000000
  fuse : (st.fn : Int) ≤ 9223372036854775807

theorem runs_snoc (F : Fl) (ds : List Deed) (d : Deed) : runs F (ds ++ [d]) = d.run (runs F ds) 0 := by
  unfold runs
  rw [List.foldl_append]
  rfl
theorem sizes_snoc (ds : List Deed) (d : Deed) : sizes (ds ++ [d]) = sizes ds + d.size := by
  unfold sizes
  simp

theorem total_del (F : Fl) (k : List UInt8) : total (del F k) ≤ total F := by
  unfold total del
  induction F with
  | nil => exact Nat.le_refl _
  | cons p r ih =>
    by_cases h : p.1 = k
    · rw [List.filter_cons_of_neg (by simp [h]), List.map_cons, List.sum_cons]
      omega
    · rw [List.filter_cons_of_pos (by simp [h]), List.map_cons, List.sum_cons, List.map_cons, List.sum_cons]
      omega
theorem total_lay (F : Fl) (k b : List UInt8) : total (lay F k b) = total F + b.length := by
  unfold total
  induction F with
  | nil => simp [lay]
  | cons p r ih =>
    unfold lay
    split
    · simp
      omega
    · simp only [List.map_cons, List.sum_cons, ih]
      omega
theorem total_get {F : Fl} (hF : Rises F) (k : List UInt8) : total (del F k) + ((get F k).getD []).length = total F := by
  unfold total del
  induction F with
  | nil => rfl
  | cons p r ih =>
    obtain ⟨h1, h2⟩ := List.pairwise_cons.1 hF
    have ih := ih h2
    unfold get
    by_cases h : p.1 = k
    · rw [List.filter_cons_of_neg (by simp [h]), if_pos h, List.map_cons, List.sum_cons]
      have hn : get r k = none := get_none_iff.2 fun y hy e => nm_irrefl k (by have := h1 y hy; rw [e, h] at this; exact this)
      rw [hn] at ih
      simp at ih ⊢
      omega
    · rw [List.filter_cons_of_pos (by simp [h]), if_neg h, List.map_cons, List.sum_cons, List.map_cons, List.sum_cons]
      omega
theorem total_put {F : Fl} (hF : Rises F) (k b : List UInt8) : total (put F k b) + ((get F k).getD []).length = total F + b.length := by
  unfold put
  rw [total_lay]
  have := total_get hF k
  omega

theorem Deed.rises {F : Fl} (hF : Rises F) (d : Deed) (t : Nat) : Rises (d.run F t) := by
  cases d with
  | put k a b => exact hF.put _ _
  | trim k n => exact hF.put _ _
  | move k s => exact (hF.del _).put _ _
  | drop k => exact hF.del _
theorem over_length (o m : List UInt8) (a : Nat) (ha : a ≤ o.length) : (over o a m).length ≤ o.length + m.length := by
  unfold over
  simp only [List.length_append, List.length_take, List.length_drop]
  omega
theorem Deed.total_le {F : Fl} (hF : Rises F) (d : Deed) (hf : d.fits F) (t : Nat) : total (d.run F t) ≤ total F + d.size := by
  cases d with
  | put k a b =>
    show total (Go.Proofs.Ytdghkmpcjjmlfaa.put F k (over ((get F k).getD []) a (b.take (b.length - t)))) ≤ total F + b.length
    have h1 := total_put hF k (over ((get F k).getD []) a (b.take (b.length - t)))
    have h2 := over_length ((get F k).getD []) (b.take (b.length - t)) a hf.1
    rw [List.length_take] at h2
    omega
  | trim k n =>
    show total (Go.Proofs.Ytdghkmpcjjmlfaa.put F k (((get F k).getD []).take n)) ≤ total F + 0
    have h1 := total_put hF k (((get F k).getD []).take n)
    rw [List.length_take] at h1
    omega
  | move k s =>
    show total (Go.Proofs.Ytdghkmpcjjmlfaa.put (del F k) s ((get F k).getD [])) ≤ total F + 0
    have h1 := total_put (hF.del k) s ((get F k).getD [])
    have h2 := total_get hF k
    omega
  | drop k => exact total_del F k
/-- A torn act leaves as many files as a whole one. -/
theorem Deed.few {F : Fl} (hF : Rises F) (d : Deed) (t : Nat) : (d.run F t).length = (d.run F 0).length := by
  cases d with
  | put k a b =>
    show (Go.Proofs.Ytdghkmpcjjmlfaa.put F k _).length = (Go.Proofs.Ytdghkmpcjjmlfaa.put F k _).length
    rw [length_put hF, length_put hF]
  | trim k n => rfl
  | move k s => rfl
  | drop k => rfl

/-- A disk in memory: S is what it may change, C what its closures hold. -/
structure DiskIs (w : World) (S C : Nat → Prop) (g : Nat) (st : Dk) : Prop where
  ok : st.Ok
  cap : ∀ i, C i → i < w.heap.size
  sap : ∀ i, S i → i < w.heap.size
  sep : ∀ i, S i → ¬ C i
  in_ : S g
  parts : ∃ (A L : Nat → Prop) (bs bl : Nat) (a : Value) (xs : List Value) (Vs Vl : List UInt8 → Value) (Ds Dl : DataW Value),
    Hd w g st.room st.used st.down (.map (some bl)) (.map (some bs)) a st.fn st.keep st.tear ∧ FilesIs w A bs st.seen Vs Ds ∧ FilesIs w L bl st.last Vl Dl ∧ ActsIs w C a st.acts xs ∧
    (∀ i, A i → S i ∧ ¬ L i ∧ i ≠ g ∧ a.ownBlock ≠ some i) ∧ (∀ i, L i → S i ∧ i ≠ g ∧ a.ownBlock ≠ some i) ∧ (∀ i, a.ownBlock = some i → S i ∧ i ≠ g)

/-- Elsewhere something changed. -/
theorem DiskIs.chg {w w' : World} {S C T : Nat → Prop} {g : Nat} {st : Dk} (h : DiskIs w S C g st) (hc : Chg w w' T) (hS : ∀ i, S i → ¬ T i) (hC : ∀ i, C i → ¬ T i) : DiskIs w' S C g st := by
  obtain ⟨A, L, bs, bl, a, xs, Vs, Vl, Ds, Dl, h1, h2, h3, h4, h5, h6, h7⟩ := h.parts
  exact ⟨h.ok, fun i hi => Nat.lt_of_lt_of_le (h.cap i hi) hc.size, fun i hi => Nat.lt_of_lt_of_le (h.sap i hi) hc.size, h.sep, h.in_, A, L, bs, bl, a, xs, Vs, Vl, Ds, Dl, h1.chg hc (hS _ h.in_), h2.chg hc fun i hi => hS i (h5 i hi).1, h3.chg hc fun i hi => hS i (h6 i hi).1, h4.chg hc hC fun i hi => hS i (h7 i hi).1, h5, h6, h7⟩
end Go.Proofs.Ytdghkmpcjjmlfaa
