/- Words on bytes and numbers, out of several texts made one. -/
import Derived.Test.YtiiollgipfggmaaRCheck
import Derived.Test.YtiiollgipfggmaaScan
import Derived.Test.YtiiollgipfggmaaBase
import Derived.Test.YtiiollgipfggmaaChg
import Derived.Maps.AppendAt
import Derived.Laws.OwnMore
import Derived.Test.YtiiollgipfggmaaWir
import Derived.WalkKit
import Derived.Deep.DrawnRows
import Derived.Deep.RegionHeld3
import Derived.Deep.QuietTactic
import Derived.BigQuiet
import Derived.IntWalk
import Derived.Shelf.Bytes.SlEqualAll
import Derived.Laws.StructEq
/- Entries and ledgers, plainly. -/
namespace Go.Proofs.Ytiiollgipfggmaa
set_option linter.unusedVariables false
set_option linter.unusedSimpArgs false

/-- An entry. -/
structure En where
  i : Int
  t : Int
  d : List UInt8
/-- An entry's cells as they lie: its data is a slice. -/
structure Ec where
  i : Int
  t : Int
  p : Option Go.Addr
  n : Nat
  c : Nat
deriving Inhabited
def ecC (x : Ec) : List Go.Value := [.int .i64 x.i, .int .i64 x.t, .slice x.p x.n x.c]
def ecV (x : Ec) : Go.Value := .agg #[.int .i64 x.i, .int .i64 x.t, .slice x.p x.n x.c]
theorem ecV_eq (x : Ec) : ecV x = .agg (ecC x).toArray := rfl
theorem ecC_inj {x y : Ec} (h : ecC x = ecC y) : x = y := by
  obtain ⟨a, b, c, d, e⟩ := x
  obtain ⟨a', b', c', d', e'⟩ := y
  simp only [ecC, List.cons.injEq, Go.Value.int.injEq, Go.Value.slice.injEq, true_and, and_true] at h
  obtain ⟨rfl, rfl, rfl, rfl, rfl⟩ := h
  rfl
def En.fits (e : En) : Prop := Go.Proofs.Ytiiollgipfggmaa.fits e.i ∧ Go.Proofs.Ytiiollgipfggmaa.fits e.t

/-- One more, as an int64 counts. -/
def nxt (x : Int) : Int := if x = 9223372036854775807 then -9223372036854775808 else x + 1
def cnt (n : Int) : Bool := decide (0 < n) && decide (n ≤ 1099511627776)
/-- An entry goes on from an index and a term. -/
def follow (ix tm : Int) (e : En) : Bool := decide (e.i = nxt ix) && decide (e.i ≤ 1099511627776) && decide (tm ≤ e.t) && cnt e.t && decide (e.d.length ≤ 4096)
def goOn : Int → Int → List En → Bool
  | _, _, [] => true
  | ix, tm, e :: r => follow ix tm e && goOn e.i e.t r
def good (ix tm : Int) : Bool := (decide (ix = 0) && decide (tm = 0)) || (cnt ix && cnt tm)
/-- The document's own test. -/
def rises : Int → Int → List En → Bool
  | _, _, [] => true
  | ix, tm, e :: r => decide (ix ≤ 1099511627776) && follow ix tm e && rises e.i e.t r
theorem goOn_rises : ∀ {ix tm : Int} {l : List En}, ix ≤ 1099511627776 → goOn ix tm l = rises ix tm l
  | _, _, [], _ => rfl
  | ix, tm, e :: r, h => by
    unfold goOn rises
    rw [decide_eq_true h, Bool.true_and]
    by_cases hf : follow ix tm e = true
    · rw [hf, Bool.true_and, Bool.true_and]
      refine goOn_rises ?_
      simp only [follow, Bool.and_eq_true, decide_eq_true_eq] at hf
      exact hf.1.1.1.2
    · rw [Bool.eq_false_iff.2 hf, Bool.false_and, Bool.false_and]
theorem good_le {ix tm : Int} (h : good ix tm = true) : 0 ≤ ix ∧ ix ≤ 1099511627776 ∧ 0 ≤ tm ∧ tm ≤ 1099511627776 := by
  simp only [good, cnt, Bool.or_eq_true, Bool.and_eq_true, decide_eq_true_eq] at h
  omega
theorem good_goOn {ix tm : Int} {l : List En} : (good ix tm && goOn ix tm l) = (good ix tm && rises ix tm l) := by
  by_cases h : good ix tm = true
  · rw [goOn_rises (good_le h).2.1]
  · rw [Bool.eq_false_iff.2 h]
    rfl
/-- A ledger. -/
structure Lg where
  ix : Int
  tm : Int
  l : List En
structure Lg.Ok (x : Lg) : Prop where
  good : good x.ix x.tm = true
  on : goOn x.ix x.tm x.l = true
/-- The k-th entry's index and term. -/
theorem goOn_get : ∀ {ix tm : Int} {l : List En}, goOn ix tm l = true → 0 ≤ ix → ix ≤ 1099511627776 → ∀ (k : Nat) e, l[k]? = some e → e.i = ix + k + 1 ∧ e.i ≤ 1099511627776 ∧ tm ≤ e.t ∧ 0 < e.t ∧ e.t ≤ 1099511627776 ∧ e.d.length ≤ 4096
  | ix, tm, [], _, _, _, k, e, h => by simp at h
  | ix, tm, x :: r, hg, h0, h1, k, e, h => by
    unfold goOn at hg
    rw [Bool.and_eq_true] at hg
    obtain ⟨hf, hr⟩ := hg
    simp only [follow, cnt, Bool.and_eq_true, decide_eq_true_eq] at hf
    have hn : nxt ix = ix + 1 := by unfold nxt; rw [if_neg (by omega)]
    cases k with
    | zero =>
      simp only [List.getElem?_cons_zero, Option.some.injEq] at h
      subst h
      omega
    | succ k =>
      rw [List.getElem?_cons_succ] at h
      have := goOn_get hr (by omega) (by omega) k e h
      omega
/-- The index and the term at the end. -/
def Lg.end_ (x : Lg) : Int × Int := match x.l.getLast? with | none => (x.ix, x.tm) | some e => (e.i, e.t)
theorem Lg.end_get {x : Lg} {k : Nat} {e : En} (hk : x.l[k]? = some e) (hl : k + 1 = x.l.length) : x.end_ = (e.i, e.t) := by
  unfold Lg.end_
  rw [List.getLast?_eq_getElem?, ← hl, Nat.add_sub_cancel, hk]
theorem Lg.end_nil {x : Lg} (h : x.l.length = 0) : x.end_ = (x.ix, x.tm) := by
  unfold Lg.end_
  rw [List.eq_nil_of_length_eq_zero h]
  rfl
theorem Lg.end_1 {x : Lg} (h : x.Ok) : x.end_.1 = x.ix + x.l.length := by
  have hg := good_le h.good
  by_cases h0 : x.l.length = 0
  · rw [Lg.end_nil h0, h0]
    simp
  · obtain ⟨e, he⟩ : ∃ e, x.l[x.l.length - 1]? = some e := ⟨_, List.getElem?_eq_getElem (by omega)⟩
    rw [Lg.end_get he (by omega)]
    have := goOn_get h.on hg.1 hg.2.1 _ e he
    simp only
    omega
/-- The term of an index. -/
def Lg.at_ (x : Lg) (index : Int) : Int × Bool :=
  if index = x.ix then (x.tm, true) else if x.ix < index ∧ index ≤ x.ix + x.l.length then match x.l[(index - x.ix - 1).toNat]? with | some e => (e.t, true) | none => (0, false) else (0, false)
/-- The entries from an index on, at most so many. -/
def Lg.from_ (x : Lg) (index most : Int) : List En :=
  if x.ix < index ∧ index ≤ x.ix + x.l.length then (x.l.drop (index - x.ix - 1).toNat).take most.toNat else []
end Go.Proofs.Ytiiollgipfggmaa
/- Entries as they lie, as a slice. -/
namespace Go.Proofs.Ytiiollgipfggmaa
set_option linter.unusedVariables false
set_option linter.unusedSimpArgs false
open Go.RowKit

theorem ecC_length (x : Ec) : (ecC x).length = 3 := rfl
theorem ecC_one (x : Ec) : ∀ v ∈ ecC x, v.oneCell' = true := by
  intro v hv
  simp only [ecC, List.mem_cons, List.not_mem_nil, or_false] at hv
  rcases hv with rfl | rfl | rfl <;> rfl
theorem eflat_len (l : List Ec) : (l.flatMap ecC).length = l.length * 3 := by
  induction l with
  | nil => rfl
  | cons x r ih => rw [List.flatMap_cons, List.length_append, ih, ecC_length, List.length_cons]; omega
theorem eflat_at : ∀ (l : List Ec) (i k : Nat) {x : Ec}, l[i]? = some x → k < 3 → (l.flatMap ecC)[i * 3 + k]? = (ecC x)[k]?
  | [], i, k, x, h, _ => by simp at h
  | y :: r, 0, k, x, h, hk => by
    simp only [List.getElem?_cons_zero, Option.some.injEq] at h
    subst h
    rw [List.flatMap_cons, Nat.zero_mul, Nat.zero_add, List.getElem?_append_left (by rw [ecC_length]; exact hk)]
  | y :: r, i + 1, k, x, h, hk => by
    rw [List.getElem?_cons_succ] at h
    rw [List.flatMap_cons, List.getElem?_append_right (by rw [ecC_length]; omega), ecC_length, show (i + 1) * 3 + k - 3 = i * 3 + k by omega]
    exact eflat_at r i k h hk

/-- A span's cells at a place. -/
def EcAt (w : World) (g o : Nat) (x : Ec) : Prop := ∀ (k : Nat) u, (ecC x)[k]? = some u → w.cell? ⟨g, o + k, none⟩ = some u
theorem EcAt.c0 {w : World} {g o : Nat} {x : Ec} (h : EcAt w g o x) : w.cell? ⟨g, o, none⟩ = some (.int .i64 x.i) := h 0 _ rfl
theorem EcAt.c1 {w : World} {g o : Nat} {x : Ec} (h : EcAt w g o x) : w.cell? ⟨g, o + 1, none⟩ = some (.int .i64 x.t) := h 1 _ rfl
theorem EcAt.c2 {w : World} {g o : Nat} {x : Ec} (h : EcAt w g o x) : w.cell? ⟨g, o + 2, none⟩ = some (.slice x.p x.n x.c) := h 2 _ rfl
theorem EcAt.lt {w : World} {g o : Nat} {x : Ec} (h : EcAt w g o x) : g < w.heap.size := lt_of_cell h.c0
theorem EcAt.below {w w' : World} {g o : Nat} {x : Ec} (h : EcAt w g o x) (hb : Below w.heap.size w w') : EcAt w' g o x := fun k u hk => (hb.cell (lt_of_cell (h k u hk))).trans (h k u hk)
theorem EcAt.grown {w w' : World} {g o : Nat} {x : Ec} {row : Option Nat} (h : EcAt w g o x) (hg : w.grownBy w' row) (hne : row ≠ some g) : EcAt w' g o x := fun k u hk => hg.cell (h k u hk) fun e => hne e.symm
theorem EcAt.drewN {w : World} {g o : Nat} {x : Ec} (h : EcAt w g o x) (n : Nat) : EcAt (w.drewN n) g o x := h
theorem EcAt.one {w : World} {g o : Nat} {x y : Ec} (h : EcAt w g o x) (h' : EcAt w g o y) : x = y := by
  refine ecC_inj ?_
  apply List.ext_getElem?
  intro k
  by_cases hk : k < 3
  · have q1 := List.getElem?_eq_getElem (l := ecC x) (i := k) (by rw [ecC_length]; exact hk)
    have q2 := List.getElem?_eq_getElem (l := ecC y) (i := k) (by rw [ecC_length]; exact hk)
    have e := (h k _ q1).symm.trans (h' k _ q2)
    injection e with e
    rw [q1, q2, e]
  · rw [List.getElem?_eq_none (by rw [ecC_length]; omega), List.getElem?_eq_none (by rw [ecC_length]; omega)]

/-- The slice v reads as the spans l. -/
def Ecs (w : World) (v : Value) (l : List Ec) : Prop :=
  ∃ (p : Option Addr) (cap : Nat), v = .slice p l.length cap ∧ l.length ≤ cap ∧ cap ≤ maxLen ∧ (p = none → cap = 0) ∧
    (0 < l.length → ∃ g o, p = some ⟨g, o, none⟩ ∧ ∀ (i : Nat) x, l[i]? = some x → EcAt w g (o + i * 3) x)
theorem Ecs.nil (w : World) : Ecs w (.slice none 0 0) [] := ⟨none, 0, rfl, Nat.le_refl _, by simp [maxLen], fun _ => rfl, fun h => absurd h (Nat.lt_irrefl _)⟩
theorem Ecs.none_ (w : World) (p : Option Addr) (c : Nat) (hc : c ≤ maxLen) (hp : p = none → c = 0) : Ecs w (.slice p 0 c) [] := ⟨p, c, rfl, Nat.zero_le _, hc, hp, fun h => absurd h (Nat.lt_irrefl _)⟩
theorem Ecs.sl {w : World} {v : Value} {l : List Ec} (h : Ecs w v l) : ∃ p n c, v = .slice p n c := by
  obtain ⟨p, c, e, _⟩ := h
  exact ⟨p, _, c, e⟩
theorem Ecs.len {w : World} {p : Option Addr} {n c : Nat} {l : List Ec} (h : Ecs w (.slice p n c) l) : n = l.length ∧ n ≤ c ∧ c ≤ maxLen := by
  obtain ⟨p', c', e, hl, hm, _⟩ := h
  injection e with _ e2 e3
  subst e2 e3
  exact ⟨rfl, hl, hm⟩
theorem Ecs.at_ {w : World} {p : Option Addr} {n c : Nat} {l : List Ec} (h : Ecs w (.slice p n c) l) (hn : 0 < n) : ∃ g o, p = some ⟨g, o, none⟩ ∧ ∀ (i : Nat) x, l[i]? = some x → EcAt w g (o + i * 3) x := by
  obtain ⟨p', c', e, _, _, _, hx⟩ := h
  injection e with e1 e2 e3
  subst e1 e2
  exact hx hn
theorem Ecs.below {w w' : World} {v : Value} {l : List Ec} (h : Ecs w v l) (hb : Below w.heap.size w w') : Ecs w' v l := by
  obtain ⟨p, c, rfl, hl, hm, hn, hx⟩ := h
  refine ⟨p, c, rfl, hl, hm, hn, fun h0 => ?_⟩
  obtain ⟨g, o, e, hx⟩ := hx h0
  exact ⟨g, o, e, fun i x hi => (hx i x hi).below hb⟩
theorem Ecs.grown {w w' : World} {v : Value} {l : List Ec} {row : Option Nat} (h : Ecs w v l) (hg : w.grownBy w' row) (hne : l = [] ∨ ∀ k, v.ownBlock = some k → row ≠ some k) : Ecs w' v l := by
  obtain ⟨p, c, rfl, hl, hm, hn, hx⟩ := h
  refine ⟨p, c, rfl, hl, hm, hn, fun h0 => ?_⟩
  obtain ⟨g, o, e, hx⟩ := hx h0
  refine ⟨g, o, e, fun i x hi => (hx i x hi).grown hg ?_⟩
  rcases hne with rfl | hne
  · simp at h0
  · exact hne g (by rw [e]; rfl)
theorem Ecs.drewN {w : World} {v : Value} {l : List Ec} (h : Ecs w v l) (n : Nat) : Ecs (w.drewN n) v l := h
theorem Ecs.one {w : World} {v : Value} {l m : List Ec} (h : Ecs w v l) (h' : Ecs w v m) : l = m := by
  obtain ⟨p, c, rfl, _, _, _, hx⟩ := h
  obtain ⟨p', c', e, _, _, _, hx'⟩ := h'
  injection e with e1 e2 e3
  subst e1
  apply List.ext_getElem? 
  intro i
  by_cases hi : i < l.length
  · have h0 : 0 < l.length := by omega
    obtain ⟨g, o, e, hx⟩ := hx h0
    obtain ⟨g', o', e', hx'⟩ := hx' (by omega)
    rw [e] at e'
    injection e' with e'
    injection e' with e1 e2
    subst e1 e2
    have hi' : i < m.length := by omega
    have q1 := List.getElem?_eq_getElem hi
    have q2 := List.getElem?_eq_getElem hi'
    rw [q1, q2, (hx i _ q1).one (hx' i _ q2)]
  · rw [List.getElem?_eq_none (by omega), List.getElem?_eq_none (by omega)]

/-- The slice v reads as the spans l, in a block of its own from B on; or it is nil. -/
def OwnE (B : Nat) (w : World) (v : Value) (l : List Ec) : Prop := w.ownsRow B 70 3 v l.length (l.flatMap ecC)
theorem OwnE.nil (B : Nat) (w : World) : OwnE B w (.slice none 0 0) [] := World.ownsRow_nil _ _ _ _
theorem OwnE.ecs {B : Nat} {w : World} {v : Value} {l : List Ec} (h : OwnE B w v l) : Ecs w v l := by
  obtain ⟨hl, ⟨rfl, h0⟩ | ⟨g, cap, cur, rfl, hB, hh, hc, hm, hs, ht⟩⟩ := h
  · obtain rfl : l = [] := List.eq_nil_of_length_eq_zero h0
    exact Ecs.nil w
  · refine ⟨_, cap, rfl, hc, hm, (fun e => by cases e), fun _ => ⟨g, 0, rfl, fun i x hi k u hk => ?_⟩⟩
    have hk6 : k < 3 := by
      have := (List.getElem?_eq_some_iff.1 hk).1
      rwa [ecC_length] at this
    have hil := (List.getElem?_eq_some_iff.1 hi).1
    have h1 := eflat_at l i k hi hk6
    rw [hk, ← ht, List.getElem?_take_of_lt (by omega), Array.getElem?_toList] at h1
    rw [cell_of_row w g (0 + i * 3 + k) cur _ (0, 0) hh, Nat.zero_add]
    exact h1
theorem OwnE.lt {B : Nat} {w : World} {v : Value} {l : List Ec} (h : OwnE B w v l) : ∀ k, v.ownBlock = some k → B ≤ k ∧ k < w.heap.size := World.ownsRow.lt h
theorem OwnE.below {B : Nat} {w w' : World} {v : Value} {l : List Ec} (h : OwnE B w v l) (hb : Below w.heap.size w w') : OwnE B w' v l := World.ownsRow.kept (row := none) h ⟨hb.os, hb.tape, hb.output, hb.size, fun k hk _ => hb.block k hk⟩ (by cases v.ownBlock <;> simp)
theorem OwnE.mono {B B' : Nat} {w : World} {v : Value} {l : List Ec} (h : OwnE B w v l) (hB : B' ≤ B) : OwnE B' w v l := ⟨h.1, h.2.imp id fun ⟨g, cap, cur, e, hb, r⟩ => ⟨g, cap, cur, e, Nat.le_trans hB hb, r⟩⟩
theorem OwnE.grown {B : Nat} {w w' : World} {v : Value} {l : List Ec} {row : Option Nat} (h : OwnE B w v l) (hg : w.grownBy w' row) (hne : v.ownBlock = none ∨ v.ownBlock ≠ row) : OwnE B w' v l := World.ownsRow.kept h hg hne


theorem Try.infoEc : (Try.prog.info? 70).map (fun i => (i.zero, i.size, i.bytes)) = some (some (.agg #[.int .i64 0, .int .i64 0, .slice none 0 0]), 3, 40) := by kernel_rfl

theorem run_pushE {B : Nat} {w : World} {v : Value} {l : List Ec} (h : OwnE B w v l) (x : Ec) (hB : B ≤ w.heap.size) (hs : l.length ≤ 1000000) :
    ∃ v' w', (Builtin.append_ #[22, 22] 22 #[v, .slice (some ⟨w.heap.size, 0, none⟩) 1 1]).run Try.prog (w.alloc (.cells #[.int .i64 x.i, .int .i64 x.t, .slice x.p x.n x.c] 70)) = .ok v' w' ∧ OwnE B w' v' (l ++ [x]) ∧ Below B w w' ∧ w.grownBy w' v.ownBlock ∧ (v'.ownBlock = v.ownBlock ∨ v'.ownBlock = some (w.heap.size + 1)) := by
  obtain ⟨i0, hi0, hz0, hz1, hz2⟩ := info_parts Try.infoEc
  have ho' := World.ownsRow.alloc h (.cells #[.int .i64 x.i, .int .i64 x.t, .slice x.p x.n x.c] 70)
  obtain ⟨v', w', hr, h1, h2, _, h4⟩ := run_append_own_at (P := Try.prog) (w.alloc (.cells #[.int .i64 x.i, .int .i64 x.t, .slice x.p x.n x.c] 70)) B 22 22 70 i0 _ 3 40 Try.underlying22 hi0 hz0 hz1 hz2 rfl (by decide) v l.length (l.flatMap ecC) ho' ⟨w.heap.size, 0, none⟩ 1 1 (ecC x) rfl
    (fun j u hj => by
      rw [add_lit0, Nat.zero_add, cell_of_row _ w.heap.size j _ 70 (0, 0) (heap_alloc_new w _)]
      simpa [ecC] using hj)
    (ecC_one x) (by simp only [maxLen]; omega) (by omega) (by simp; omega)
  have hb0 : Below B w (w.alloc (.cells #[.int .i64 x.i, .int .i64 x.t, .slice x.p x.n x.c] 70)) := (Below.refl _ _).alloc hB _
  refine ⟨v', w', hr, ?_, hb0.grown h2 (by simp; omega) fun k hk => (World.ownsRow.lt h k hk).1, ?_, ?_⟩
  · have : (l ++ [x]).flatMap ecC = l.flatMap ecC ++ ecC x := by simp
    unfold OwnE
    rw [this, List.length_append]
    exact h1
  · refine ⟨h2.os, h2.tape, h2.output, ?_, fun k hk hne => ?_⟩
    · have := h2.size
      simp at this
      omega
    · rw [h2.block k (by simp; omega) hne]
      exact heap_alloc_old _ _ hk
  · simpa using h4

theorem eflat_get2 {l : List Ec} {j : Nat} {u : Value} (h : (l.flatMap ecC)[j]? = some u) : ∃ x, l[j / 3]? = some x ∧ (ecC x)[j % 3]? = some u := by
  have hj := (List.getElem?_eq_some_iff.1 h).1
  rw [eflat_len] at hj
  have hx : l[j / 3]? = some (l[j / 3]'(by omega)) := List.getElem?_eq_getElem _
  refine ⟨_, hx, ?_⟩
  rw [← eflat_at l (j / 3) (j % 3) hx (Nat.mod_lt _ (by omega)), show j / 3 * 3 + j % 3 = j by omega]
  exact h

theorem run_pushE_none {w : World} {v : Value} {l : List Ec} {B : Nat} (hv : OwnE B w v l) (p : Option Addr) (c : Nat) : (Builtin.append_ #[22, 22] 22 #[v, .slice p 0 c]).run Try.prog w = .ok v w := by
  obtain ⟨i0, hi0, hz0, hz1, hz2⟩ := info_parts Try.infoEc
  obtain ⟨_, ⟨rfl, _⟩ | ⟨g, cap, cur, rfl, _, _, hl, _⟩⟩ := hv
  · cases p <;> simp [Builtin.append_, run_underlying Try.underlying22, Go.sizeOf, typeInfo, hi0, Builtin.lenOf, Builtin.firstCells, loadCells, loadCellsFrom]
  · cases p <;> simp [Builtin.append_, run_underlying Try.underlying22, Go.sizeOf, typeInfo, hi0, Builtin.lenOf, Builtin.firstCells, hl, storeCells, loadCells, loadCellsFrom]

theorem run_pushesE {B : Nat} {w : World} {v u : Value} {l m : List Ec} (h : OwnE B w v l) (hu : Ecs w u m) (hB : B ≤ w.heap.size) (hs : (l.length + m.length) * 40 ≤ 140737488355328) :
    ∃ v' w', (Builtin.append_ #[22, 22] 22 #[v, u]).run Try.prog w = .ok v' w' ∧ OwnE B w' v' (l ++ m) ∧ Below B w w' ∧ w.grownBy w' v.ownBlock := by
  obtain ⟨i0, hi0, hz0, hz1, hz2⟩ := info_parts Try.infoEc
  obtain ⟨p, n, c, rfl⟩ := hu.sl
  have hn := hu.len.1
  by_cases h0 : n = 0
  · subst h0
    obtain rfl : m = [] := List.eq_nil_of_length_eq_zero hn.symm
    exact ⟨v, w, run_pushE_none h p c, by rw [List.append_nil]; exact h, Below.refl _ _, World.grownBy.refl _ _⟩
  · obtain ⟨g, o, rfl, hx⟩ := hu.at_ (by omega)
    obtain ⟨v', w', hr, h1, h2, _, h4⟩ := run_append_own_at (P := Try.prog) w B 22 22 70 i0 _ 3 40 Try.underlying22 hi0 hz0 hz1 hz2 rfl (by decide) v l.length (l.flatMap ecC) h ⟨g, o, none⟩ n c (m.flatMap ecC) (by rw [eflat_len, hn])
      (fun j u hj => by
        obtain ⟨x, hxj, hk⟩ := eflat_get2 hj
        have := hx (j / 3) x hxj (j % 3) u hk
        rw [show o + j / 3 * 3 + j % 3 = o + j by omega] at this
        rw [add_lit0]
        exact this)
      (fun u hu => by
        obtain ⟨x, _, hx⟩ := List.mem_flatMap.1 hu
        exact ecC_one x u hx) (by simp only [maxLen]; omega) (by omega) hB
    refine ⟨v', w', hr, ?_, (Below.refl _ _).grown h2 hB fun k hk => (World.ownsRow.lt h k hk).1, h2⟩
    unfold OwnE
    rw [List.flatMap_append, List.length_append, ← hn]
    exact h1
theorem wpList_pushesE {w : World} {ops : Array Oper} {rest : List Oper} {o : Oper} {a : Act} {Q : Exit → Act → World → Prop} (hgd : o.guard = none) (s t : Operand)
    (ho : o.op = .call { callee := .builtin .append, args := #[s, t], argTypes := #[22, 22] }) (hty : o.type = 22) {B : Nat} {v u : Value} {l m : List Ec}
    (hs : a.eval s = v) (ht : a.eval t = u) (h : OwnE B w v l) (hu : Ecs w u m) (hB : B ≤ w.heap.size) (hn : (l.length + m.length) * 40 ≤ 140737488355328)
    (hK : ∀ v' w', OwnE B w' v' (l ++ m) → Below B w w' → w.grownBy w' v.ownBlock → wpList Try.prog ops Q rest (a.put o.dst v') w') : wpList Try.prog ops Q (o :: rest) a w := by
  obtain ⟨v', w', hr, h1, h2, h3⟩ := run_pushesE h hu hB hn
  exact Lib.wpList_append_run_sl _ hgd s t 22 ho v _ hs ht (by rw [hty]; exact hr) (hK v' w' h1 h2 h3)
theorem wpList_pushE {w : World} {ops : Array Oper} {rest : List Oper} {o : Oper} {a : Act} {Q : Exit → Act → World → Prop} (hgd : o.guard = none) (s t : Operand)
    (ho : o.op = .call { callee := .builtin .append, args := #[s, t], argTypes := #[22, 22] }) (hty : o.type = 22) {B : Nat} {v : Value} {l : List Ec} (x : Ec) {H : Nat}
    (hs : a.eval s = v) (ht : a.eval t = .slice (some ⟨H, 0, none⟩) 1 1) (hH : H = w.heap.size) (h : OwnE B w v l) (hB : B ≤ w.heap.size) (hn : l.length ≤ 1000000)
    (hK : ∀ v' w', OwnE B w' v' (l ++ [x]) → Below B w w' → w.grownBy w' v.ownBlock → wpList Try.prog ops Q rest (a.put o.dst v') w') : wpList Try.prog ops Q (o :: rest) a (w.alloc (.cells #[.int .i64 x.i, .int .i64 x.t, .slice x.p x.n x.c] 70)) := by
  subst hH
  obtain ⟨v', w', hr, h1, h2, h3, _⟩ := run_pushE h x hB hn
  exact Lib.wpList_append_run_sl _ hgd s t 22 ho v _ hs ht (by rw [hty]; exact hr) (hK v' w' h1 h2 h3)
end Go.Proofs.Ytiiollgipfggmaa
/- Entries and a ledger in memory. -/
namespace Go.Proofs.Ytiiollgipfggmaa
set_option linter.unusedVariables false
set_option linter.unusedSimpArgs false
open Go.RowKit

/-- Entries as they lie, and what they read as. -/
def Dat (w : World) (E : List Ec) (L : List En) : Prop :=
  E.length = L.length ∧ ∀ (k : Nat) e x, E[k]? = some e → L[k]? = some x → e.i = x.i ∧ e.t = x.t ∧ By w (.slice e.p e.n e.c) x.d ∧ x.fits
theorem Dat.nil (w : World) : Dat w [] [] := ⟨rfl, by simp⟩
theorem Dat.below {w w' : World} {E : List Ec} {L : List En} (h : Dat w E L) (hb : Below w.heap.size w w') : Dat w' E L :=
  ⟨h.1, fun k e x h1 h2 => by
    obtain ⟨a, b, c, d⟩ := h.2 k e x h1 h2
    exact ⟨a, b, c.below hb, d⟩⟩
theorem Dat.get {w : World} {E : List Ec} {L : List En} (h : Dat w E L) {k : Nat} {x : En} (hx : L[k]? = some x) : ∃ e, E[k]? = some e ∧ e.i = x.i ∧ e.t = x.t ∧ By w (.slice e.p e.n e.c) x.d ∧ x.fits := by
  have hl := (List.getElem?_eq_some_iff.1 hx).1
  have he := List.getElem?_eq_getElem (l := E) (i := k) (by rw [h.1]; exact hl)
  exact ⟨_, he, h.2 k _ x he hx⟩
theorem Dat.push {w : World} {E : List Ec} {L : List En} (h : Dat w E L) {e : Ec} {x : En} (hi : e.i = x.i) (ht : e.t = x.t) (hb : By w (.slice e.p e.n e.c) x.d) (hf : x.fits) : Dat w (E ++ [e]) (L ++ [x]) := by
  refine ⟨by rw [List.length_append, List.length_append, h.1]; rfl, fun k e' x' h1 h2 => ?_⟩
  by_cases hk : k < E.length
  · rw [List.getElem?_append_left hk] at h1
    rw [List.getElem?_append_left (by rw [← h.1]; exact hk)] at h2
    exact h.2 k e' x' h1 h2
  · rw [List.getElem?_append_right (by omega)] at h1
    rw [List.getElem?_append_right (by rw [← h.1]; omega)] at h2
    have h0 : k - E.length = 0 := by
      have := (List.getElem?_eq_some_iff.1 h1).1
      simp at this
      omega
    rw [h0] at h1
    rw [← h.1, h0] at h2
    simp at h1 h2
    subst h1 h2
    exact ⟨hi, ht, hb, hf⟩
theorem Dat.take {w : World} {E : List Ec} {L : List En} (h : Dat w E L) (k : Nat) : Dat w (E.take k) (L.take k) :=
  ⟨by rw [List.length_take, List.length_take, h.1], fun j e x h1 h2 => by
    have hj : j < k := by
      have := (List.getElem?_eq_some_iff.1 h1).1
      rw [List.length_take] at this
      omega
    rw [List.getElem?_take_of_lt hj] at h1 h2
    exact h.2 j e x h1 h2⟩
theorem Dat.drop {w : World} {E : List Ec} {L : List En} (h : Dat w E L) (k : Nat) : Dat w (E.drop k) (L.drop k) :=
  ⟨by rw [List.length_drop, List.length_drop, h.1], fun j e x h1 h2 => by
    rw [List.getElem?_drop] at h1 h2
    exact h.2 _ e x h1 h2⟩
/-- The slice v reads as the entries L. -/
def Ens (w : World) (v : Value) (L : List En) : Prop := ∃ E, Ecs w v E ∧ Dat w E L
theorem Ens.nil (w : World) : Ens w (.slice none 0 0) [] := ⟨[], Ecs.nil w, Dat.nil w⟩
theorem Ens.sl {w : World} {v : Value} {L : List En} (h : Ens w v L) : ∃ p n c, v = .slice p n c := h.elim fun E h => h.1.sl
theorem Ens.len {w : World} {p : Option Addr} {n c : Nat} {L : List En} (h : Ens w (.slice p n c) L) : n = L.length ∧ n ≤ c ∧ c ≤ maxLen := by
  obtain ⟨E, h1, h2⟩ := h
  obtain ⟨a, b, d⟩ := h1.len
  exact ⟨by rw [a, h2.1], b, d⟩
theorem Ens.below {w w' : World} {v : Value} {L : List En} (h : Ens w v L) (hb : Below w.heap.size w w') : Ens w' v L := h.elim fun E h => ⟨E, h.1.below hb, h.2.below hb⟩
theorem Ens.fits {w : World} {v : Value} {L : List En} (h : Ens w v L) : ∀ x ∈ L, x.fits := by
  intro x hx
  obtain ⟨k, hk⟩ := List.mem_iff_getElem?.1 hx
  obtain ⟨E, _, h2⟩ := h
  obtain ⟨e, _, _, _, _, hf⟩ := h2.get hk
  exact hf
/-- One entry of a slice. -/
theorem Ens.at_ {w : World} {p : Option Addr} {n c : Nat} {L : List En} (h : Ens w (.slice p n c) L) {k : Nat} {x : En} (hx : L[k]? = some x) :
    ∃ g o pd nd cd, p = some ⟨g, o, none⟩ ∧ EcAt w g (o + k * 3) ⟨x.i, x.t, pd, nd, cd⟩ ∧ By w (.slice pd nd cd) x.d ∧ nd = x.d.length := by
  obtain ⟨E, h1, h2⟩ := h
  obtain ⟨e, he, hi, ht, hb, hf⟩ := h2.get hx
  have hl := (List.getElem?_eq_some_iff.1 he).1
  obtain ⟨g, o, hp, hat⟩ := h1.at_ (by rw [h1.len.1]; omega)
  have := hat k e he
  obtain ⟨ei, et, ep, en, ec⟩ := e
  dsimp only at hi ht hb
  subst hi ht
  refine ⟨g, o, ep, en, ec, hp, this, hb, ?_⟩
  obtain ⟨q, cap, e1, _⟩ := hb
  injection e1
/-- A ledger at a block. -/
structure LgIs (w : World) (g : Nat) (x : Lg) : Prop where
  c0 : w.cell? ⟨g, 0, none⟩ = some (.int .i64 x.ix)
  c1 : w.cell? ⟨g, 1, none⟩ = some (.int .i64 x.tm)
  c2 : ∃ p n c, w.cell? ⟨g, 2, none⟩ = some (.slice p n c) ∧ Ens w (.slice p n c) x.l
  c3 : w.cell? ⟨g, 3, none⟩ = some (.bool true)
  ok : x.Ok
  few : x.l.length ≤ 1000000
theorem LgIs.below {w w' : World} {g : Nat} {x : Lg} (h : LgIs w g x) (hb : Below w.heap.size w w') : LgIs w' g x := by
  obtain ⟨p, n, c, hc, he⟩ := h.c2
  exact ⟨(hb.cell (lt_of_cell h.c0)).trans h.c0, (hb.cell (lt_of_cell h.c1)).trans h.c1, ⟨p, n, c, (hb.cell (lt_of_cell hc)).trans hc, he.below hb⟩, (hb.cell (lt_of_cell h.c3)).trans h.c3, h.ok, h.few⟩
theorem bel_drewN {B : Nat} {w V : World} (h : Below B w V) (q : Nat) : Below B w (V.drewN q) := ⟨h.os, h.tape, h.output, h.size, h.block⟩
theorem nxt_wrap {x : Int} (h : fits x) : IntKind.i64.wrap (x + 1) = nxt x := by
  unfold fits at h
  unfold nxt
  rw [IntKind.wrap_i64]
  by_cases e : x = 9223372036854775807
  · rw [if_pos e, e]
    rfl
  · rw [if_neg e]
    omega
end Go.Proofs.Ytiiollgipfggmaa
/- The program's base: what may be, what goes on. -/
namespace Go.Proofs.Ytiiollgipfggmaa
set_option linter.unusedVariables false
set_option linter.unusedSimpArgs false
open Go.RowKit

theorem count_any {w : World} (n : Int) : Calls Try.prog 109 #[.int .i64 n] w fun e w' => e = .returned (.bool (cnt n)) ∧ w = w' := by
  by_cases h0 : 0 < n
  · have e0 : decide (0 < n) = true := by simpa using h0
    have HX : Hid (cnt n = decide (n ≤ 1099511627776)) := hide (by unfold cnt; rw [e0]; rfl)
    clear h0
    go_enter Try.func109, Try.ntmps109
    go_wp2
    go_ret
    exact ⟨ret_b HX.out, rfl⟩
  · have e0 : decide (0 < n) = false := by simpa using h0
    have HX : Hid (cnt n = false) := hide (by unfold cnt; rw [e0]; rfl)
    clear h0
    go_enter Try.func109, Try.ntmps109
    go_wp2
    go_ret
    exact ⟨ret_b HX.out, rfl⟩

set_option maxRecDepth 100000 in
set_option maxHeartbeats 1000000 in
theorem mayBe_any {w : World} (ix tm : Int) : Calls Try.prog 104 #[.agg #[.int .i64 ix, .int .i64 tm]] w fun e w' => e = .returned (.bool (good ix tm)) ∧ Below w.heap.size w w' := by
  have H1 : Hid (∀ w, Calls Try.prog 109 #[.int .i64 ix] w fun e w' => e = .returned (.bool (cnt ix)) ∧ w = w') := hide fun w => count_any ix
  have H2 : Hid (∀ w, Calls Try.prog 109 #[.int .i64 tm] w fun e w' => e = .returned (.bool (cnt tm)) ∧ w = w') := hide fun w => count_any tm
  have HB := hide ((Below.refl w.heap.size w).alloc (Nat.le_refl _) (.cells #[.int .i64 ix, .int .i64 tm] 137))
  have HX : Hid (good ix tm = ((decide (ix = 0) && decide (tm = 0)) || (cnt ix && cnt tm))) := hide rfl
  obtain ⟨q1, hq1⟩ : ∃ q, cnt ix = q := ⟨_, rfl⟩
  obtain ⟨q2, hq2⟩ : ∃ q, cnt tm = q := ⟨_, rfl⟩
  rw [hq1] at H1 HX
  rw [hq2] at H2 HX
  clear hq1 hq2
  go_enter Try.func104, Try.ntmps104
  by_cases h1 : ix = 0
  · by_cases h2 : tm = 0
    · subst h1 h2
      go_wp2
      go_ret
      exact ⟨ret_b (by rw [HX.out]; rfl), HB.out⟩
    · have e1 : (ix == 0) = true := by simpa using h1
      have e2 : (tm == 0) = false := by simpa using h2
      have HX2 : Hid (good ix tm = (q1 && q2)) := hide (by rw [HX.out]; simp [h2])
      clear HX h2 h1
      go_wp2_with fail
      refine (H1.out _).mono ?_
      rintro e w9 ⟨rfl, rfl⟩
      cases q1
      · go_wp2
        go_ret
        exact ⟨ret_b HX2.out, HB.out⟩
      · go_wp2_with fail
        refine (H2.out _).mono ?_
        rintro e w9 ⟨rfl, rfl⟩
        cases q2
        all_goals
          go_wp2
          go_ret
          exact ⟨ret_b HX2.out, HB.out⟩
  · have e1 : (ix == 0) = false := by simpa using h1
    have HX2 : Hid (good ix tm = (q1 && q2)) := hide (by rw [HX.out]; simp [h1])
    clear HX h1
    go_wp2_with fail
    refine (H1.out _).mono ?_
    rintro e w9 ⟨rfl, rfl⟩
    cases q1
    · go_wp2
      go_ret
      exact ⟨ret_b HX2.out, HB.out⟩
    · go_wp2_with fail
      refine (H2.out _).mono ?_
      rintro e w9 ⟨rfl, rfl⟩
      cases q2
      all_goals
        go_wp2
        go_ret
        exact ⟨ret_b HX2.out, HB.out⟩

theorem follow_eq (ix tm : Int) (x : En) : follow ix tm x = ((x.i == nxt ix) && decide (x.i ≤ 1099511627776) && decide (tm ≤ x.t) && cnt x.t && decide ((x.d.length : Int) ≤ 4096)) := by
  unfold follow
  congr 1
  rw [decide_eq_decide]
  omega
set_option maxRecDepth 100000 in
set_option maxHeartbeats 2000000 in
theorem mayFollow_any {w : World} {ix tm i t : Int} {p : Option Addr} {n c : Nat} {x : En} (hix : fits ix) (hi : i = x.i) (ht : t = x.t) (hn : n = x.d.length) (hm : n ≤ maxLen) :
    Calls Try.prog 110 #[.agg #[.int .i64 ix, .int .i64 tm], .agg #[.int .i64 i, .int .i64 t, .slice p n c]] w fun e w' => e = .returned (.bool (follow ix tm x)) ∧ Below w.heap.size w w' := by
  have HB := hide (((Below.refl w.heap.size w).alloc (Nat.le_refl _) (.cells #[.int .i64 ix, .int .i64 tm] 137)).alloc (by simp) (.cells #[.int .i64 i, .int .i64 t, .slice p n c] 70))
  have H2 : Hid (∀ w, Calls Try.prog 109 #[.int .i64 t] w fun e w' => e = .returned (.bool (cnt t)) ∧ w = w') := hide fun w => count_any t
  have HX0 := hide (follow_eq ix tm x)
  rw [← hi, ← ht, ← hn] at HX0
  obtain ⟨nx, hnx⟩ : ∃ nx, nxt ix = nx := ⟨_, rfl⟩
  have hwr := nxt_wrap hix
  rw [hnx] at hwr HX0
  obtain ⟨q4, hq4⟩ : ∃ q, cnt t = q := ⟨_, rfl⟩
  rw [hq4] at H2 HX0
  have hm2 : (n : Int) ≤ 9223372036854775807 := by unfold maxLen at hm; omega
  have hwx := hwr
  rw [IntKind.wrap_i64] at hwx
  have hn0 : fits nx := by unfold fits; omega
  unfold fits at hix hn0
  clear hq4 hnx hi ht hn hm hwx
  go_enter Try.func110, Try.ntmps110
  obtain ⟨q1, e1⟩ : ∃ q, (i == nx) = q := ⟨_, rfl⟩
  obtain ⟨q2, e2⟩ : ∃ q, decide (i ≤ 1099511627776) = q := ⟨_, rfl⟩
  obtain ⟨q3, e3⟩ : ∃ q, decide (tm ≤ t) = q := ⟨_, rfl⟩
  obtain ⟨q5, e5⟩ : ∃ q, decide ((n : Int) ≤ 4096) = q := ⟨_, rfl⟩
  have HX : Hid (follow ix tm x = (q1 && q2 && q3 && q4 && q5)) := hide (by rw [HX0.out, e1, e2, e3, e5])
  clear HX0
  cases q1
  · clear e2 e3 e5
    go_wp2
    go_ret
    exact ⟨ret_b HX.out, HB.out⟩
  · cases q2
    · clear e3 e5
      go_wp2
      go_ret
      exact ⟨ret_b HX.out, HB.out⟩
    · cases q3
      · clear e5
        go_wp2
        go_ret
        exact ⟨ret_b HX.out, HB.out⟩
      · go_wp2_with fail
        refine (H2.out _).mono ?_
        rintro e w9 ⟨rfl, rfl⟩
        cases q4
        · clear e5
          go_wp2
          go_ret
          exact ⟨ret_b HX.out, HB.out⟩
        · cases q5
          all_goals
            go_wp2
            go_ret
            exact ⟨ret_b HX.out, HB.out⟩

theorem endOf_any {w : World} {i t : Int} {p : Option Addr} {n c : Nat} : Calls Try.prog 111 #[.agg #[.int .i64 i, .int .i64 t, .slice p n c]] w fun e w' => e = .returned (.agg #[.int .i64 i, .int .i64 t]) ∧ Below w.heap.size w w' := by
  have HB := hide ((((Below.refl w.heap.size w).alloc (Nat.le_refl _) (.cells #[.int .i64 i, .int .i64 t, .slice p n c] 70)).alloc (by simp) (.cells #[.int .i64 i, .int .i64 t] 137)))
  go_enter Try.func111, Try.ntmps111
  go_wp2
  exact bodyPost_ret (v := .agg #[.int .i64 i, .int .i64 t]) (by simp [results, Try.results111, go_sem]) rfl ⟨rfl, HB.out⟩

/-- Two cells of a box that may be written. -/
def Box2 (w : World) (b : Nat) (x y : Int) : Prop := w.cell? ⟨b, 0, none⟩ = some (.int .i64 x) ∧ w.cell? ⟨b, 1, none⟩ = some (.int .i64 y) ∧ w.frozen? ⟨b, 0, none⟩ = false ∧ w.frozen? ⟨b, 1, none⟩ = false
theorem Box2.below {w w' : World} {b : Nat} {x y : Int} (h : Box2 w b x y) (hb : Below w.heap.size w w') : Box2 w' b x y := by
  have hl : b < w.heap.size := lt_of_cell h.1
  exact ⟨(hb.cell (p := ⟨b, 0, none⟩) hl).trans h.1, (hb.cell (p := ⟨b, 1, none⟩) hl).trans h.2.1, (hb.frozen (p := ⟨b, 0, none⟩) hl).trans h.2.2.1, (hb.frozen (p := ⟨b, 1, none⟩) hl).trans h.2.2.2⟩
theorem Box2.new (w : World) (x y : Int) (T : Nat) : Box2 (w.alloc (.cells #[.int .i64 x, .int .i64 y] T)) w.heap.size x y := by
  refine ⟨?_, ?_, ?_, ?_⟩
  · rw [cell_of_row _ w.heap.size 0 _ _ (0, 0) (heap_alloc_new w _)]
    rfl
  · rw [cell_of_row _ w.heap.size 1 _ _ (0, 0) (heap_alloc_new w _)]
    rfl
  · rw [frozen?_alloc_cells]
    simp [World.frozen?]
  · rw [frozen?_alloc_cells]
    simp [World.frozen?]
theorem Box2.set {w : World} {b : Nat} {x y : Int} (h : Box2 w b x y) (x' y' : Int) : Box2 ((w.setCell ⟨b, 0, none⟩ (.int .i64 x')).setCell ⟨b, 1, none⟩ (.int .i64 y')) b x' y' := by
  refine ⟨?_, ?_, ?_, ?_⟩
  · rw [World.cell?_setCell_other _ _ _ _ (by simp)]
    exact World.cell?_setCell_same _ _ _ h.1
  · exact World.cell?_setCell_same _ _ _ ((World.cell?_setCell_other _ _ _ _ (by simp)).trans h.2.1)
  · simpa using h.2.2.1
  · simpa using h.2.2.2

set_option maxRecDepth 200000 in
set_option maxHeartbeats 4000000 in
theorem mayGoOn_any {w : World} {ix tm : Int} {v : Value} {L : List En} (hv : Ens w v L) (hix : fits ix) :
    Calls Try.prog 105 #[.agg #[.int .i64 ix, .int .i64 tm], v] w fun e w' => e = .returned (.bool (goOn ix tm L)) ∧ Below w.heap.size w w' := by
  obtain ⟨p, n, c, rfl⟩ := hv.sl
  have hlen := hv.len
  have hn := hlen.1
  subst hn
  have hbig : (L.length : Int) ≤ 9223372036854775807 := by have := hlen.2.1; have := hlen.2.2; unfold maxLen at this; omega
  have b1 : Below w.heap.size w (w.alloc (.cells #[.int .i64 ix, .int .i64 tm] 137)) := (Below.refl _ _).alloc (Nat.le_refl _) _
  have HBX := hide (Box2.new w ix tm 137)
  have HB1 := hide b1
  have HV := hide (hv.below b1)
  have HV0 := hide hv
  have HFX := hide hix
  obtain ⟨b, hb⟩ : ∃ b, w.heap.size = b := ⟨_, rfl⟩
  obtain ⟨Y, hY⟩ : ∃ Y, w.alloc (.cells #[.int .i64 ix, .int .i64 tm] 137) = Y := ⟨_, rfl⟩
  have HBY : Hid (b < Y.heap.size) := hide (by rw [← hY, ← hb]; simp)
  rw [hY] at HBX HB1 HV
  rw [hb] at HBX HB1
  clear b1 hv hlen hix
  go_enter Try.func105, Try.ntmps105
  go_wp2_with fail
  go_loopw [6, 9] (fun _ i wr => ∃ (k : Nat) (x y : Int), k ≤ L.length ∧ i = .int .i64 k ∧ Hid (Box2 wr b x y ∧ Below b w wr ∧ Below b Y wr ∧ Ens wr (.slice p L.length c) L ∧ fits x ∧ goOn ix tm L = goOn x y (L.drop k))) (fun _ i _ => L.length - (intOf i).toNat)
  case atStart => exact ⟨0, ix, tm, by omega, rfl, hide ⟨HBX.out, HB1.out, Below.refl _ _, HV.out, HFX.out, by rw [List.drop_zero]⟩⟩
  case round =>
    obtain ⟨k, x, y, hk, rfl, HR⟩ := hrel
    by_cases hlt : k < L.length
    · have he := List.getElem?_eq_getElem hlt
      obtain ⟨e, hee⟩ : ∃ e, L[k] = e := ⟨_, rfl⟩
      have HD : Hid (L.drop k = e :: L.drop (k + 1)) := hide (by rw [← hee]; exact List.drop_eq_getElem_cons hlt)
      rw [hee] at he
      obtain ⟨g, o, pd, nd, cd, rfl, hat, hby, hnd⟩ := HR.out.2.2.2.1.at_ he
      obtain ⟨oo, hoo⟩ : ∃ oo, o + k * 3 = oo := ⟨_, rfl⟩
      rw [hoo] at hat
      have c0 := hat.c0
      have c1 := hat.c1
      have c2 := hat.c2
      dsimp only at c0 c1 c2
      have HND := hide hnd
      have HDM : Hid (nd ≤ maxLen) := hide (by
        obtain ⟨_, cap, e1, h1, h2, _⟩ := hby
        injection e1
        omega)
      have HEF : Hid (e.fits) := hide (HR.out.2.2.2.1.fits e (List.mem_of_getElem? he))
      obtain ⟨ei, hei⟩ : ∃ ei, e.i = ei := ⟨_, rfl⟩
      obtain ⟨et, het⟩ : ∃ et, e.t = et := ⟨_, rfl⟩
      rw [hei] at c0
      rw [het] at c1
      have HE := hide (And.intro hei het)
      have bN : Below wr.heap.size wr (wr.alloc (.cells #[.int .i64 ei, .int .i64 et, .slice pd nd cd] 70)) := (Below.refl _ _).alloc (Nat.le_refl _) _
      have hN0 : (wr.alloc (.cells #[.int .i64 ei, .int .i64 et, .slice pd nd cd] 70)).cell? ⟨wr.heap.size, 0, none⟩ = some (.int .i64 ei) ∧ (wr.alloc (.cells #[.int .i64 ei, .int .i64 et, .slice pd nd cd] 70)).cell? ⟨wr.heap.size, 1, none⟩ = some (.int .i64 et) ∧ (wr.alloc (.cells #[.int .i64 ei, .int .i64 et, .slice pd nd cd] 70)).cell? ⟨wr.heap.size, 2, none⟩ = some (.slice pd nd cd) := by
        refine ⟨?_, ?_, ?_⟩
        all_goals
          rw [cell_of_row _ wr.heap.size _ _ _ (0, 0) (heap_alloc_new wr _)]
          rfl
      have hzs : wr.heap.size < (wr.alloc (.cells #[.int .i64 ei, .int .i64 et, .slice pd nd cd] 70)).heap.size := by simp
      obtain ⟨Z, hZ⟩ : ∃ Z, wr.alloc (.cells #[.int .i64 ei, .int .i64 et, .slice pd nd cd] 70) = Z := ⟨_, rfl⟩
      obtain ⟨bz, hbz⟩ : ∃ bz, wr.heap.size = bz := ⟨_, rfl⟩
      rw [hZ, hbz] at hN0 hzs
      rw [hZ] at bN
      have HZS := hide hzs
      have HBN := hide bN
      have HBXZ := hide (HR.out.1.below bN)
      obtain ⟨d0, d1, f0, f1⟩ := HBXZ.out
      have HNZ := hide hN0
      obtain ⟨z0, z1, z2⟩ := hN0
      have HMF : Hid (∀ W, Calls Try.prog 110 #[.agg #[.int .i64 x, .int .i64 y], .agg #[.int .i64 ei, .int .i64 et, .slice pd nd cd]] W fun e' w' => e' = .returned (.bool (follow x y e)) ∧ Below W.heap.size W w') := hide fun W => mayFollow_any HR.out.2.2.2.2.1 HE.out.1.symm HE.out.2.symm HND.out HDM.out
      obtain ⟨q, hq⟩ : ∃ q, follow x y e = q := ⟨_, rfl⟩
      rw [hq] at HMF
      have HQ := hide hq
      clear hq he hee hat hby hnd hei het bN hzs
      cases q
      · have HX : Hid (goOn ix tm L = false) := hide (by
          rw [HR.out.2.2.2.2.2, HD.out]
          unfold goOn
          rw [HQ.out]
          rfl)
        go_wp2_with fail
        refine (HMF.out _).mono ?_
        rintro e9 w2 ⟨rfl, hb2⟩
        have HB2 := hide ((HR.out.2.1.trans (HBN.out.mono (by have := HR.out.2.1.size; omega))).trans (hb2.mono (by have := HR.out.2.1.size; have := HBN.out.size; omega)))
        clear hb2 hoo
        go_wp2
        go_ret
        exact ⟨ret_b HX.out, by rw [hb]; exact HB2.out⟩
      · have HX : Hid (goOn ix tm L = goOn ei et (L.drop (k + 1))) := hide (by
          rw [HR.out.2.2.2.2.2, HD.out, ← HE.out.1, ← HE.out.2]
          conv => lhs; unfold goOn
          rw [HQ.out]
          rfl)
        have HEI : Hid (fits ei) := hide (by rw [← HE.out.1]; exact HEF.out.1)
        go_wp2_with fail
        refine (HMF.out _).mono ?_
        rintro e9 w2 ⟨rfl, hb2⟩
        have HB22 := hide hb2
        have HB2 : Hid (Below wr.heap.size wr w2) := hide (HBN.out.trans (hb2.mono HBN.out.size))
        have HN2 : Hid (w2.cell? ⟨bz, 0, none⟩ = some (.int .i64 ei) ∧ w2.cell? ⟨bz, 1, none⟩ = some (.int .i64 et) ∧ w2.cell? ⟨bz, 2, none⟩ = some (.slice pd nd cd)) := hide (by
          exact ⟨(hb2.cell (p := ⟨bz, 0, none⟩) HZS.out).trans HNZ.out.1, (hb2.cell (p := ⟨bz, 1, none⟩) HZS.out).trans HNZ.out.2.1, (hb2.cell (p := ⟨bz, 2, none⟩) HZS.out).trans HNZ.out.2.2⟩)
        obtain ⟨m0, m1, m2⟩ := HN2.out
        clear hb2 hoo c0 c1 c2 d0 d1 f0 f1 z0 z1 z2 hZ
        have HD2 := hide (HBXZ.out.below (show Below Z.heap.size Z w2 from HB22.out))
        obtain ⟨d0, d1, f0, f1⟩ := HD2.out
        go_wp2_with fail
        refine endOf_any.mono ?_
        rintro e9 w3 ⟨rfl, hb3⟩
        have HB3 : Hid (Below wr.heap.size wr w3) := hide (HB2.out.trans (hb3.mono HB2.out.size))
        clear d0 d1 f0 f1
        have HX3 := hide (HR.out.1.below HB3.out)
        obtain ⟨d0, d1, f0, f1⟩ := HX3.out
        have HS := hide (HX3.out.set ei et)
        have HG : Hid (w3.grownBy ((w3.setCell ⟨b, 0, none⟩ (.int .i64 ei)).setCell ⟨b, 1, none⟩ (.int .i64 et)) (some b)) := hide (gtrans (grown_set _ _ _ _) (grown_set _ _ _ _))
        have HB4 : Hid (Below b w ((w3.setCell ⟨b, 0, none⟩ (.int .i64 ei)).setCell ⟨b, 1, none⟩ (.int .i64 et))) := hide ((HR.out.2.1.trans (HB3.out.mono (by have := HR.out.2.1.size; omega))).grown HG.out (by have := HR.out.2.1.size; have := HB3.out.size; omega) fun k hk => by cases hk; exact Nat.le_refl _)
        have HB5 : Hid (Below b Y ((w3.setCell ⟨b, 0, none⟩ (.int .i64 ei)).setCell ⟨b, 1, none⟩ (.int .i64 et))) := hide ((HR.out.2.2.1.trans (HB3.out.mono (by have := HR.out.2.1.size; omega))).grown HG.out (by have := HR.out.2.1.size; have := HB3.out.size; omega) fun k hk => by cases hk; exact Nat.le_refl _)
        clear hb3 m0 m1 m2
        go_wp2
        go_roundw
        case rel => exact ⟨k + 1, ei, et, by omega, by go_num, hide ⟨HS.out, HB4.out, HB5.out, HV0.out.below (by rw [hb]; exact HB4.out), HEI.out, HX.out⟩⟩
        case measure => simp [intOf]; omega
    · have HX : Hid (goOn ix tm L = true) := hide (by
        rw [HR.out.2.2.2.2.2, List.drop_eq_nil_of_le (by omega)]
        rfl)
      go_wp2
      go_ret
      exact ⟨ret_b HX.out, by rw [hb]; exact HR.out.2.1⟩
end Go.Proofs.Ytiiollgipfggmaa
/- Entries with bytes of their own. -/
namespace Go.Proofs.Ytiiollgipfggmaa
set_option linter.unusedVariables false
set_option linter.unusedSimpArgs false
open Go.RowKit

theorem Own.grown {B : Nat} {w w' : World} {p : Option Addr} {n c : Nat} {l : List UInt8} {row : Option Nat} (h : Own B w (.slice p n c) l) (hg : w.grownBy w' row) (hne : c = 0 ∨ ∀ k, (Value.slice p n c).ownBlock = some k → row ≠ some k) : Own B w' (.slice p n c) l := by
  rcases h with ⟨e, h⟩ | ⟨g, cap, e, hB, hl, hm, hc, hs, hf⟩
  · exact .inl ⟨e, h⟩
  · injection e with e1 e2 e3
    subst e1 e2 e3
    rcases hne with h0 | hne
    · subst h0
      exact .inr ⟨g, 0, rfl, hB, hl, hm, fun i x hx => by simp at hl; subst hl; simp at hx, fun i hi => by omega, fun i hi => by omega⟩
    · have hn := hne g rfl
      by_cases h0 : c = 0
      · subst h0
        exact .inr ⟨g, 0, rfl, hB, hl, hm, fun i x hx => by simp at hl; subst hl; simp at hx, fun i hi => by omega, fun i hi => by omega⟩
      · have hlt : g < w.heap.size := by
          obtain ⟨u, hu⟩ := Option.isSome_iff_exists.1 (hs 0 (by omega))
          exact lt_of_cell hu
        have hblk := hg.block g hlt (fun e => hn e.symm)
        have hcell : ∀ i, w'.cell? ⟨g, i, none⟩ = w.cell? ⟨g, i, none⟩ := fun i => by unfold World.cell?; simp only [hblk]
        have hfro : ∀ i, w'.frozen? ⟨g, i, none⟩ = w.frozen? ⟨g, i, none⟩ := fun i => by unfold World.frozen?; simp only [hblk]
        exact .inr ⟨g, c, rfl, hB, hl, hm, fun i x hx => by rw [hcell]; exact hc i x hx, fun i hi => by rw [hcell]; exact hs i hi, fun i hi => by rw [hfro]; exact hf i hi⟩
theorem Own.far {B : Nat} {w : World} {p : Option Addr} {n c : Nat} {l : List UInt8} (h : Own B w (.slice p n c) l) : c = 0 ∨ ∃ g, p = some ⟨g, 0, none⟩ ∧ B ≤ g ∧ g < w.heap.size := by
  rcases h with ⟨e, h⟩ | ⟨g, cap, e, hB, hl, hm, hc, hs, hf⟩
  · injection e with e1 e2 e3
    exact .inl e3
  · injection e with e1 e2 e3
    subst e1 e2 e3
    by_cases h0 : c = 0
    · exact .inl h0
    · obtain ⟨u, hu⟩ := Option.isSome_iff_exists.1 (hs 0 (by omega))
      exact .inr ⟨g, rfl, hB, lt_of_cell hu⟩
/-- An entry's data lies apart from the block of a slice. -/
def Far (e : Ec) (v : Value) : Prop := e.c = 0 ∨ ∀ k, (Value.slice e.p e.n e.c).ownBlock = some k → v.ownBlock ≠ some k
def DatO (B : Nat) (w : World) (v : Value) (E : List Ec) (L : List En) : Prop :=
  E.length = L.length ∧ ∀ (k : Nat) e x, E[k]? = some e → L[k]? = some x → e.i = x.i ∧ e.t = x.t ∧ Own B w (.slice e.p e.n e.c) x.d ∧ Far e v ∧ x.fits
theorem DatO.dat {B : Nat} {w : World} {v : Value} {E : List Ec} {L : List En} (h : DatO B w v E L) : Dat w E L := ⟨h.1, fun k e x h1 h2 => by
  obtain ⟨a, b, c, _, d⟩ := h.2 k e x h1 h2
  exact ⟨a, b, c.by_, d⟩⟩
theorem DatO.below {B : Nat} {w w' : World} {v : Value} {E : List Ec} {L : List En} (h : DatO B w v E L) (hb : Below w.heap.size w w') : DatO B w' v E L := ⟨h.1, fun k e x h1 h2 => by
  obtain ⟨a, b, c, f, d⟩ := h.2 k e x h1 h2
  exact ⟨a, b, c.below hb, f, d⟩⟩
theorem DatO.mono {B B' : Nat} {w : World} {v : Value} {E : List Ec} {L : List En} (h : DatO B w v E L) (hB : B' ≤ B) : DatO B' w v E L := ⟨h.1, fun k e x h1 h2 => by
  obtain ⟨a, b, c, f, d⟩ := h.2 k e x h1 h2
  exact ⟨a, b, c.mono hB, f, d⟩⟩
/-- One more entry, behind a growth of the slice. -/
theorem DatO.push {B : Nat} {w w' : World} {v v' : Value} {E : List Ec} {L : List En} (h : DatO B w v E L) {e : Ec} {x : En} (hi : e.i = x.i) (ht : e.t = x.t) (hd : Own B w (.slice e.p e.n e.c) x.d) (hfar : Far e v) (hf : x.fits)
    (hg : w.grownBy w' v.ownBlock) (he : v'.ownBlock = v.ownBlock ∨ v'.ownBlock = some (w.heap.size + 1)) : DatO B w' v' (E ++ [e]) (L ++ [x]) := by
  have step : ∀ (e : Ec) (d : List UInt8), Own B w (.slice e.p e.n e.c) d → Far e v → Own B w' (.slice e.p e.n e.c) d ∧ Far e v' := fun e d ho hfa => by
    refine ⟨ho.grown hg (hfa.imp id fun h k hk => h k hk), ?_⟩
    rcases hfa with h0 | hfa
    · exact .inl h0
    · rcases he with he | he
      · exact .inr fun k hk => by rw [he]; exact hfa k hk
      · rcases ho.far with h0 | ⟨g, hp, _, hlt⟩
        · exact .inl h0
        · refine .inr fun k hk => ?_
          rw [he]
          rw [hp] at hk
          injection hk with hk
          intro e2
          injection e2 with e2
          subst hk
          have : (⟨g, 0, none⟩ : Addr).block = g := rfl
          omega
  refine ⟨by rw [List.length_append, List.length_append, h.1]; rfl, fun k e' x' h1 h2 => ?_⟩
  by_cases hk : k < E.length
  · rw [List.getElem?_append_left hk] at h1
    rw [List.getElem?_append_left (by rw [← h.1]; exact hk)] at h2
    obtain ⟨a, b, c, f, d⟩ := h.2 k e' x' h1 h2
    obtain ⟨s1, s2⟩ := step e' x'.d c f
    exact ⟨a, b, s1, s2, d⟩
  · rw [List.getElem?_append_right (by omega)] at h1
    rw [List.getElem?_append_right (by rw [← h.1]; omega)] at h2
    have h0 : k - E.length = 0 := by
      have := (List.getElem?_eq_some_iff.1 h1).1
      simp at this
      omega
    rw [h0] at h1
    rw [← h.1, h0] at h2
    simp at h1 h2
    subst h1 h2
    obtain ⟨s1, s2⟩ := step e x.d hd hfar
    exact ⟨hi, ht, s1, s2, hf⟩
/-- The slice v reads as the entries L, and all of it is the call's own from B on. -/
def OwnEns (B : Nat) (w : World) (v : Value) (L : List En) : Prop := ∃ E, OwnE B w v E ∧ DatO B w v E L
theorem OwnEns.ens {B : Nat} {w : World} {v : Value} {L : List En} (h : OwnEns B w v L) : Ens w v L := h.elim fun E h => ⟨E, h.1.ecs, h.2.dat⟩
theorem OwnEns.below {B : Nat} {w w' : World} {v : Value} {L : List En} (h : OwnEns B w v L) (hb : Below w.heap.size w w') : OwnEns B w' v L := h.elim fun E h => ⟨E, h.1.below hb, h.2.below hb⟩
theorem OwnEns.mono {B B' : Nat} {w : World} {v : Value} {L : List En} (h : OwnEns B w v L) (hB : B' ≤ B) : OwnEns B' w v L := h.elim fun E h => ⟨E, h.1.mono hB, h.2.mono hB⟩
theorem wpList_pushE2 {w : World} {ops : Array Oper} {rest : List Oper} {o : Oper} {a : Act} {Q : Exit → Act → World → Prop} (hgd : o.guard = none) (s t : Operand)
    (ho : o.op = .call { callee := .builtin .append, args := #[s, t], argTypes := #[22, 22] }) (hty : o.type = 22) {B : Nat} {v : Value} {l : List Ec} (x : Ec) {H : Nat}
    (hs : a.eval s = v) (ht : a.eval t = .slice (some ⟨H, 0, none⟩) 1 1) (hH : H = w.heap.size) (h : OwnE B w v l) (hB : B ≤ w.heap.size) (hn : l.length ≤ 1000000)
    (hK : ∀ v' w', OwnE B w' v' (l ++ [x]) → Below B w w' → w.grownBy w' v.ownBlock → (v'.ownBlock = v.ownBlock ∨ v'.ownBlock = some (w.heap.size + 1)) → wpList Try.prog ops Q rest (a.put o.dst v') w') : wpList Try.prog ops Q (o :: rest) a (w.alloc (.cells #[.int .i64 x.i, .int .i64 x.t, .slice x.p x.n x.c] 70)) := by
  subst hH
  obtain ⟨v', w', hr, h1, h2, h3, h4⟩ := run_pushE h x hB hn
  exact Lib.wpList_append_run_sl _ hgd s t 22 ho v _ hs ht (by rw [hty]; exact hr) (hK v' w' h1 h2 h3 h4)
/-- What own says. -/
def OwnPost (w : World) (L : List En) (e : Ending) (w' : World) : Prop := ∃ v, e = .returned v ∧ OwnEns w.heap.size w' v L ∧ Below w.heap.size w w'

set_option maxRecDepth 200000 in
set_option maxHeartbeats 4000000 in
theorem own_any {w : World} {v : Value} {L : List En} (hv : Ens w v L) (h6 : L.length ≤ 100000) (hd : ∀ x ∈ L, x.d.length ≤ 4096) : Calls Try.prog 106 #[v] w (OwnPost w L) := by
  obtain ⟨p, n, c, rfl⟩ := hv.sl
  have hlen := hv.len
  have hn := hlen.1
  subst hn
  have HV := hide hv
  have HD := hide hd
  clear hv hlen hd
  go_enter Try.func106, Try.ntmps106
  go_wp2_with fail
  go_loopw [3, 5, 8] (fun u _ i wr => ∃ k : Nat, k ≤ L.length ∧ i = .int .i64 k ∧ (∃ p n c, u = .slice p n c) ∧ Hid (OwnEns w.heap.size wr u (L.take k) ∧ Below w.heap.size w wr)) (fun _ _ i _ => L.length - (intOf i).toNat)
  case atStart => exact ⟨0, by omega, rfl, ⟨_, _, _, rfl⟩, hide ⟨⟨[], OwnE.nil _ _, rfl, by simp⟩, Below.refl _ _⟩⟩
  case round =>
    obtain ⟨k, hk, rfl, ⟨pu, nu, cu, rfl⟩, HR⟩ := hrel
    by_cases hlt : k < L.length
    · have he := List.getElem?_eq_getElem hlt
      obtain ⟨e, hee⟩ : ∃ e, L[k] = e := ⟨_, rfl⟩
      rw [hee] at he
      have HT : Hid (L.take (k + 1) = L.take k ++ [e]) := hide (by rw [List.take_add_one, he]; rfl)
      obtain ⟨g, o, pd, nd, cd, rfl, hat0, hby0, hnd⟩ := HV.out.at_ he
      have hat := hat0.below (HR.out.2.mono (Nat.le_refl _))
      obtain ⟨oo, hoo⟩ : ∃ oo, o + k * 3 = oo := ⟨_, rfl⟩
      rw [hoo] at hat
      have c0 := hat.c0
      have c1 := hat.c1
      have c2 := hat.c2
      dsimp only at c0 c1 c2
      have HBY := hide (hby0.below HR.out.2)
      have HDL : Hid (e.d.length ≤ 4096) := hide (HD.out e (List.mem_of_getElem? he))
      have HEF : Hid (e.fits) := hide (HV.out.fits e (List.mem_of_getElem? he))
      obtain ⟨ei, hei⟩ : ∃ ei, e.i = ei := ⟨_, rfl⟩
      obtain ⟨et, het⟩ : ∃ et, e.t = et := ⟨_, rfl⟩
      rw [hei] at c0
      rw [het] at c1
      have HE := hide (And.intro hei het)
      have bN : Below wr.heap.size wr (wr.alloc (.cells #[.int .i64 ei, .int .i64 et, .slice pd nd cd] 70)) := (Below.refl _ _).alloc (Nat.le_refl _) _
      have hN0 : EcAt (wr.alloc (.cells #[.int .i64 ei, .int .i64 et, .slice pd nd cd] 70)) wr.heap.size 0 ⟨ei, et, pd, nd, cd⟩ := fun j u hj => by
        rw [Nat.zero_add, cell_of_row _ wr.heap.size _ _ _ (0, 0) (heap_alloc_new wr _)]
        simpa [ecC] using hj
      have hF0 : (wr.alloc (.cells #[.int .i64 ei, .int .i64 et, .slice pd nd cd] 70)).frozen? ⟨wr.heap.size, 2, none⟩ = false := by
        rw [frozen?_alloc_cells]
        simp [World.frozen?]
      have hzs : wr.heap.size < (wr.alloc (.cells #[.int .i64 ei, .int .i64 et, .slice pd nd cd] 70)).heap.size := by simp
      obtain ⟨Z, hZ⟩ : ∃ Z, wr.alloc (.cells #[.int .i64 ei, .int .i64 et, .slice pd nd cd] 70) = Z := ⟨_, rfl⟩
      obtain ⟨bz, hbz⟩ : ∃ bz, wr.heap.size = bz := ⟨_, rfl⟩
      rw [hZ, hbz] at hN0 hzs hF0
      rw [hZ] at bN
      have HZS := hide hzs
      have HBN := hide bN
      have HNZ := hide hN0
      have HF0 := hide hF0
      have HBYZ := hide (HBY.out.below bN)
      obtain ⟨z0, z1, z2⟩ := And.intro hN0.c0 (And.intro hN0.c1 hN0.c2)
      rw [Nat.zero_add] at z1 z2
      dsimp only at z0 z1 z2
      have HWS : Hid (w.heap.size ≤ Z.heap.size) := hide (by have := HR.out.2.size; omega)
      clear he hee hat0 hat hby0 hnd hei het bN hzs hN0 hF0
      have HZB := hide (show ∀ V, Z.grownBy V none → Below Z.heap.size Z V from fun V h => ⟨h.os, h.tape, h.output, h.size, fun k hk => h.block k hk (by simp)⟩)
      obtain ⟨E, hE, hDE⟩ := HR.out.1
      have HELN : Hid (E.length ≤ 1000000) := hide (by rw [hDE.1, List.length_take]; omega)
      have HALL : Hid (∀ (w4 : World) (p4 : Option Addr) (n4 c4 : Nat), Own w.heap.size w4 (.slice p4 n4 c4) e.d → Below Z.heap.size Z w4 → (∀ k, (Value.slice p4 n4 c4).ownBlock = some k → (Value.slice none 0 0).ownBlock = some k ∨ Z.heap.size ≤ k) →
          OwnE w.heap.size (w4.setCell ⟨bz, 2, none⟩ (.slice p4 n4 c4)) (.slice pu nu cu) E ∧ DatO w.heap.size (w4.setCell ⟨bz, 2, none⟩ (.slice p4 n4 c4)) (.slice pu nu cu) E (L.take k) ∧
          Own w.heap.size (w4.setCell ⟨bz, 2, none⟩ (.slice p4 n4 c4)) (.slice p4 n4 c4) e.d ∧ Far ⟨ei, et, p4, n4, c4⟩ (.slice pu nu cu) ∧ Below w.heap.size w (w4.setCell ⟨bz, 2, none⟩ (.slice p4 n4 c4)) ∧ w.heap.size ≤ (w4.setCell ⟨bz, 2, none⟩ (.slice p4 n4 c4)).heap.size) := hide (by
        intro w4 p4 n4 c4 ho hb hk4
        have hbw : Below wr.heap.size wr (w4.setCell ⟨bz, 2, none⟩ (.slice p4 n4 c4)) := (HBN.out.trans (hb.mono (by have := HZS.out; omega))).grown (grown_set _ _ _ _) (by have := HBN.out.size; have := hb.size; omega) fun k hk => by cases hk; omega
        have hbb : Below w.heap.size w (w4.setCell ⟨bz, 2, none⟩ (.slice p4 n4 c4)) := HR.out.2.trans (hbw.mono HR.out.2.size)
        have hkk : ∀ k, (Value.slice p4 n4 c4).ownBlock = some k → Z.heap.size ≤ k := fun k h => by
          rcases hk4 k h with h | h
          · cases h
          · exact h
        refine ⟨hE.below hbw, hDE.below hbw, ho.grown (grown_set _ _ _ _) (.inr fun k hk e2 => ?_), .inr fun k hk e2 => ?_, hbb, hbb.size⟩
        · injection e2 with e2
          have := hkk k hk
          have := HZS.out
          omega
        · have h1 := (hE.lt k e2).2
          have h2 := hkk k hk
          have := HZS.out
          omega)
      have HEQ := hide hbz
      clear hE hDE
      go_wp2_with (at_builtin; first
        | (refine wpList_append_by (B := w.heap.size) (w := Z) (v := .slice none 0 0) (y := .slice pd nd cd) (l := []) (m := e.d) rfl (.const (.slice none 0 0)) (.tmp 13) rfl rfl rfl rfl (Own.nil _ _) HBYZ.out (by have := HDL.out; simp; omega) HWS.out ?_; intro v4 w4 ho4 hg4 hb4 hk4; rw [List.nil_append] at ho4; obtain ⟨p4, c4, rfl⟩ := ho4.by_.shape; have HO4 := hide ho4; have HB4 := hide (HZB.out w4 hg4); have HK4 := hide hk4; have HN4 := hide (HNZ.out.below HB4.out); have HF4 := hide ((HB4.out.frozen (p := ⟨bz, 2, none⟩) HZS.out).trans HF0.out); obtain ⟨y0, y1, y2⟩ := And.intro HN4.out.c0 (And.intro HN4.out.c1 HN4.out.c2); rw [Nat.zero_add] at y1 y2; dsimp only at y0 y1 y2; have y3 := HF4.out; clear ho4 hg4 hb4 hk4 z0 z1 z2 c0 c1 c2 hoo)
        | (go_loud (refine wpList_pushE2 (w := w4.setCell ⟨bz, 2, none⟩ (.slice p4 e.d.length c4)) (v := .slice pu nu cu) (l := E) (B := w.heap.size) (H := w4.heap.size) rfl (.tmp 16) (.tmp 18) rfl rfl ⟨ei, et, p4, e.d.length, c4⟩ rfl rfl (by simp) (HALL.out w4 p4 _ c4 HO4.out HB4.out HK4.out).1 (HALL.out w4 p4 _ c4 HO4.out HB4.out HK4.out).2.2.2.2.2 HELN.out ?_); intro v6 w6 ho6 hb6 hg6 he6; obtain ⟨p6, n6, c6, rfl⟩ := ho6.ecs.sl; have HA := hide (HALL.out w4 p4 _ c4 HO4.out HB4.out HK4.out); have HO6 := hide ho6; have HB6 := hide (HA.out.2.2.2.2.1.trans hb6); have HD6 := hide (HA.out.2.1.push (e := ⟨ei, et, p4, e.d.length, c4⟩) (x := e) HE.out.1.symm HE.out.2.symm HA.out.2.2.1 HA.out.2.2.2.1 HEF.out hg6 he6); clear ho6 hb6 hg6 he6))
      go_wp2
      go_roundw
      case rel => exact ⟨k + 1, by omega, by go_num, ⟨_, _, _, rfl⟩, hide ⟨⟨_, HO6.out, by rw [HT.out]; exact HD6.out⟩, HB6.out⟩⟩
      case measure => simp [intOf]; omega
    · have HT : Hid (L.take k = L) := hide (List.take_of_length_le (by omega))
      go_wp2
      go_ret
      have h := HR.out
      rw [HT.out] at h
      exact ⟨_, rfl, h.1, h.2⟩
end Go.Proofs.Ytiiollgipfggmaa
/- A ledger is made. -/
namespace Go.Proofs.Ytiiollgipfggmaa
set_option linter.unusedVariables false
set_option linter.unusedSimpArgs false
open Go.RowKit

/-- A ledger of the call's own, from B on. -/
structure LgOwn (B : Nat) (w : World) (g : Nat) (x : Lg) : Prop where
  hB : B ≤ g
  c0 : w.cell? ⟨g, 0, none⟩ = some (.int .i64 x.ix)
  c1 : w.cell? ⟨g, 1, none⟩ = some (.int .i64 x.tm)
  c2 : ∃ p n c E, w.cell? ⟨g, 2, none⟩ = some (.slice p n c) ∧ OwnE B w (.slice p n c) E ∧ DatO B w (.slice p n c) E x.l ∧ (Value.slice p n c).ownBlock ≠ some g ∧ ∀ e ∈ E, e.c = 0 ∨ (Value.slice e.p e.n e.c).ownBlock ≠ some g
  c3 : w.cell? ⟨g, 3, none⟩ = some (.bool true)
  fr : ∀ i, i < 4 → w.frozen? ⟨g, i, none⟩ = false
  ok : x.Ok
  few : x.l.length ≤ 100000
theorem LgOwn.is {B : Nat} {w : World} {g : Nat} {x : Lg} (h : LgOwn B w g x) : LgIs w g x := by
  obtain ⟨p, n, c, E, h1, h2, h3, _⟩ := h.c2
  exact ⟨h.c0, h.c1, ⟨p, n, c, h1, E, h2.ecs, h3.dat⟩, h.c3, h.ok, by have := h.few; omega⟩
theorem LgOwn.below {B : Nat} {w w' : World} {g : Nat} {x : Lg} (h : LgOwn B w g x) (hb : Below w.heap.size w w') : LgOwn B w' g x := by
  have hg : g < w.heap.size := lt_of_cell h.c0
  obtain ⟨p, n, c, E, h1, h2, h3, h4⟩ := h.c2
  exact ⟨h.hB, (hb.cell (lt_of_cell h.c0)).trans h.c0, (hb.cell (lt_of_cell h.c1)).trans h.c1, ⟨p, n, c, E, (hb.cell (lt_of_cell h1)).trans h1, h2.below hb, h3.below hb, h4⟩, (hb.cell (lt_of_cell h.c3)).trans h.c3,
    fun i hi => (hb.frozen (p := ⟨g, i, none⟩) hg).trans (h.fr i hi), h.ok, h.few⟩
/-- What New says. -/
def NewE (q : Bool) (w : World) (ix tm : Int) (L : List En) (e : Ending) (w' : World) : Prop :=
  Below w.heap.size w w' ∧ (if q = true then ∃ g, e = .returned (.tuple #[.pointer (some ⟨g, 0, none⟩), .int .i64 0]) ∧ LgOwn w.heap.size w' g ⟨ix, tm, L⟩ else e = .returned (.tuple #[.pointer none, .int .i64 110]))
def NewPost (w : World) (ix tm : Int) (L : List En) (e : Ending) (w' : World) : Prop := NewE (good ix tm && goOn ix tm L) w ix tm L e w'
theorem goOn_data : ∀ {ix tm : Int} {l : List En}, goOn ix tm l = true → ∀ x ∈ l, x.d.length ≤ 4096
  | _, _, [], _, x, hx => by cases hx
  | ix, tm, e :: r, h, x, hx => by
    unfold goOn at h
    rw [Bool.and_eq_true] at h
    rcases List.mem_cons.1 hx with rfl | hx
    · have := h.1
      simp only [follow, Bool.and_eq_true, decide_eq_true_eq] at this
      exact this.2
    · exact goOn_data h.2 x hx
/-- The new ledger's box. -/
theorem LgOwn.new {B : Nat} {w : World} {ix tm : Int} {v : Value} {p : Option Addr} {n c : Nat} {L : List En} {E : List Ec} (hv : v = .slice p n c) (hE : OwnE B w v E) (hD : DatO B w v E L) (hB : B ≤ w.heap.size) (hok : (Lg.mk ix tm L).Ok) (hfew : L.length ≤ 100000) :
    LgOwn B (w.alloc (.cells #[.int .i64 ix, .int .i64 tm, v, .bool true] 140)) w.heap.size ⟨ix, tm, L⟩ := by
  subst hv
  have hb : Below w.heap.size w (w.alloc (.cells #[.int .i64 ix, .int .i64 tm, .slice p n c, .bool true] 140)) := (Below.refl _ _).alloc (Nat.le_refl _) _
  have hc : ∀ i u, #[Value.int .i64 ix, .int .i64 tm, .slice p n c, .bool true][i]? = some u → (w.alloc (.cells #[.int .i64 ix, .int .i64 tm, .slice p n c, .bool true] 140)).cell? ⟨w.heap.size, i, none⟩ = some u := fun i u h => by
    rw [cell_of_row _ w.heap.size _ _ _ (0, 0) (heap_alloc_new w _)]
    exact h
  refine ⟨hB, hc 0 _ rfl, hc 1 _ rfl, ⟨p, n, c, E, hc 2 _ rfl, hE.below hb, hD.below hb, fun e => ?_, fun e he => ?_⟩, hc 3 _ rfl, fun i _ => ?_, hok, hfew⟩
  · have := (hE.lt _ e).2
    omega
  · obtain ⟨k, hk⟩ := List.mem_iff_getElem?.1 he
    have hkl := (List.getElem?_eq_some_iff.1 hk).1
    obtain ⟨_, _, ho, _⟩ := hD.2 k e _ hk (List.getElem?_eq_getElem (by rw [← hD.1]; exact hkl))
    rcases ho.far with h0 | ⟨g, hp, _, hlt⟩
    · exact .inl h0
    · refine .inr fun e2 => ?_
      rw [hp] at e2
      injection e2 with e2
      have : (⟨g, 0, none⟩ : Addr).block = g := rfl
      omega
  · rw [frozen?_alloc_cells]
    simp [World.frozen?]

set_option maxRecDepth 200000 in
set_option maxHeartbeats 4000000 in
theorem new_any {w : World} {ix tm : Int} {v : Value} {L : List En} (hv : Ens w v L) (hix : fits ix) (h6 : L.length ≤ 100000) : Calls Try.prog 100 #[.int .i64 ix, .int .i64 tm, v] w (NewPost w ix tm L) := by
  obtain ⟨p, n, c, rfl⟩ := hv.sl
  have HFX := hide hix
  have b1 : Below w.heap.size w (w.alloc (.cells #[.int .i64 ix, .int .i64 tm] 137)) := (Below.refl _ _).alloc (Nat.le_refl _) _
  have HBX := hide (Box2.new w ix tm 137)
  have HV := hide (hv.below b1)
  have HB1 := hide b1
  obtain ⟨b, hb⟩ : ∃ b, w.heap.size = b := ⟨_, rfl⟩
  obtain ⟨Y, hY⟩ : ∃ Y, w.alloc (.cells #[.int .i64 ix, .int .i64 tm] 137) = Y := ⟨_, rfl⟩
  rw [hY] at HBX HB1 HV
  rw [hb] at HBX HB1
  have H6 := hide h6
  clear b1 hv hix h6
  have HM1 : Hid (∀ W, Calls Try.prog 104 #[.agg #[.int .i64 ix, .int .i64 tm]] W fun e w' => e = .returned (.bool (good ix tm)) ∧ Below W.heap.size W w') := hide fun W => mayBe_any ix tm
  have HM2 : Hid (∀ W, Below Y.heap.size Y W → Calls Try.prog 105 #[.agg #[.int .i64 ix, .int .i64 tm], .slice p n c] W fun e w' => e = .returned (.bool (goOn ix tm L)) ∧ Below W.heap.size W w') := hide fun W hW => mayGoOn_any (HV.out.below hW) HFX.out
  obtain ⟨q1, hq1⟩ : ∃ q, good ix tm = q := ⟨_, rfl⟩
  obtain ⟨q2, hq2⟩ : ∃ q, goOn ix tm L = q := ⟨_, rfl⟩
  rw [hq1] at HM1
  rw [hq2] at HM2
  have HQ := hide (And.intro hq1 hq2)
  unfold NewPost
  rw [hq1, hq2]
  have HBWW := hide hb
  clear hq1 hq2
  obtain ⟨y0, y1, y2, y3⟩ := HBX.out
  go_enter Try.func100, Try.ntmps100
  go_wp2_with fail
  refine (HM1.out _).mono ?_
  rintro e w2 ⟨rfl, hb2⟩
  have HB2 := hide hb2
  clear hb2
  cases q1
  · go_wp2
    go_ret2
    have hbw : Below b w w2 := HB1.out.trans (HB2.out.mono (by have := HB1.out.size; omega))
    exact ⟨by rw [HBWW.out]; exact hbw, rfl⟩
  · have HX2 := hide (HBX.out.below HB2.out)
    clear y0 y1 y2 y3
    obtain ⟨y0, y1, y2, y3⟩ := HX2.out
    go_wp2_with fail
    refine (HM2.out _ HB2.out).mono ?_
    rintro e w3 ⟨rfl, hb3⟩
    have HB3 := hide (HB2.out.trans (hb3.mono HB2.out.size))
    have HBW : Hid (Below b w w3) := hide (HB1.out.trans (HB3.out.mono (by have := HB1.out.size; omega)))
    clear hb3
    cases q2
    · go_wp2
      go_ret2
      exact ⟨by rw [HBWW.out]; exact HBW.out, rfl⟩
    · have HX3 := hide (HBX.out.below HB3.out)
      clear y0 y1 y2 y3
      obtain ⟨y0, y1, y2, y3⟩ := HX3.out
      have HOW := hide (fun V (hV : Below w3.heap.size w3 V) => own_any ((HV.out.below HB3.out).below hV) H6.out (goOn_data HQ.out.2))
      have HOK : Hid ((Lg.mk ix tm L).Ok) := hide ⟨HQ.out.1, HQ.out.2⟩
      have kp : ∀ V, Below w3.heap.size w3 V → V.cell? ⟨b, 0, none⟩ = some (.int .i64 ix) ∧ V.cell? ⟨b, 1, none⟩ = some (.int .i64 tm) := fun V hV => ⟨(hV.cell (lt_of_cell HX3.out.1)).trans HX3.out.1, (hV.cell (lt_of_cell HX3.out.2.1)).trans HX3.out.2.1⟩
      have KEEP := hide kp
      clear kp
      go_wp2_with fail
      go_region_held3 (fun V => V.cell? ⟨b, 0, none⟩ = some (.int .i64 ix) ∧ V.cell? ⟨b, 1, none⟩ = some (.int .i64 tm)) (first | go_keep | exact KEEP.out _ HBO.out)
        ((go_at_call 106; (refine (HOW.out _ (by first | exact Below.refl _ _ | exact bel_drewN (Below.refl _ _) _ | exact bel_drewN (Below.refl _ _) 1)).mono ?_); rintro e w5 ⟨v5, rfl, ho5, hb5⟩; obtain ⟨E5, hE5, hD5⟩ := ho5; obtain ⟨p5, n5, c5, rfl⟩ := hE5.ecs.sl; have HO5 := hide (And.intro hE5 hD5); have HBO : Hid (Below w3.heap.size w3 w5) := hide ((bel_drewN (Below.refl _ w3) 1).trans hb5); clear hE5 hD5 hb5))
      have hB5 : w.heap.size ≤ w3.heap.size := by have := HBW.out.size; omega
      have hL5 := LgOwn.new (B := w.heap.size) rfl (HO5.out.1.mono hB5) (HO5.out.2.mono hB5) (by have := HBO.out.size; omega) HOK.out H6.out
      have HL5 := hide hL5
      have HBZ : Hid (Below w.heap.size w (w5.alloc (.cells #[.int .i64 ix, .int .i64 tm, .slice p5 n5 c5, .bool true] 140))) := hide (by
        rw [HBWW.out]
        exact (HBW.out.trans (HBO.out.mono (by omega))).alloc (by have := HBO.out.size; omega) _)
      clear hL5 hB5
      go_wp2
      go_ret2
      exact ⟨HBZ.out, _, rfl, HL5.out⟩
end Go.Proofs.Ytiiollgipfggmaa
/- What a ledger tells: the program's. -/
namespace Go.Proofs.Ytiiollgipfggmaa
set_option linter.unusedVariables false
set_option linter.unusedSimpArgs false
open Go.RowKit

theorem ret_tb {p : Int × Bool} {a : Int} {b : Bool} (h : p = (a, b)) : Ending.returned (.tuple #[.int .i64 a, .bool b]) = .returned (.tuple #[.int .i64 p.1, .bool p.2]) := by rw [h]
theorem LgIs.bounds {w : World} {g : Nat} {x : Lg} (h : LgIs w g x) : 0 ≤ x.ix ∧ x.ix ≤ 1099511627776 ∧ 0 ≤ x.tm ∧ x.tm ≤ 1099511627776 := good_le h.ok.good

theorem LgIs.on_get {w : World} {g : Nat} {x : Lg} (h : LgIs w g x) : ∀ (k : Nat) e, x.l[k]? = some e → e.i = x.ix + k + 1 ∧ e.i ≤ 1099511627776 ∧ x.tm ≤ e.t ∧ 0 < e.t ∧ e.t ≤ 1099511627776 ∧ e.d.length ≤ 4096 := goOn_get h.ok.on h.bounds.1 h.bounds.2.1
theorem made_any {w : World} {g : Nat} {x : Lg} (h : LgIs w g x) : Calls Try.prog 107 #[.pointer (some ⟨g, 0, none⟩)] w fun e w' => e = .returned (.bool true) ∧ w = w' := by
  have c3 := h.c3
  clear h
  go_enter Try.func107, Try.ntmps107
  go_wp2
  go_ret
  exact ⟨rfl, rfl⟩

/-- The entries of a ledger. -/
structure Ents (w : World) (g : Nat) (x : Lg) (p : Option Addr) (c : Nat) : Prop where
  c2 : w.cell? ⟨g, 2, none⟩ = some (.slice p x.l.length c)
  ens : Ens w (.slice p x.l.length c) x.l
theorem LgIs.ents {w : World} {g : Nat} {x : Lg} (h : LgIs w g x) : ∃ p c, Ents w g x p c := by
  obtain ⟨p, n, c, h1, h2⟩ := h.c2
  obtain ⟨rfl, _⟩ := h2.len
  exact ⟨p, c, h1, h2⟩

set_option maxRecDepth 100000 in
set_option maxHeartbeats 2000000 in
theorem end_any {w : World} {g : Nat} {x : Lg} (h : LgIs w g x) : Calls Try.prog 108 #[.pointer (some ⟨g, 0, none⟩)] w fun e w' => e = .returned (.agg #[.int .i64 x.end_.1, .int .i64 x.end_.2]) ∧ Below w.heap.size w w' := by
  obtain ⟨p, c, hE⟩ := h.ents
  have hfew := h.few
  have b1 : Below w.heap.size w (w.alloc (.cells #[.int .i64 0, .int .i64 0] 137)) := (Below.refl _ _).alloc (Nat.le_refl _) _
  have hX := Box2.new w 0 0 137
  obtain ⟨Y, hY⟩ : ∃ Y, w.alloc (.cells #[.int .i64 0, .int .i64 0] 137) = Y := ⟨_, rfl⟩
  rw [hY] at b1 hX
  have h1 := h.below b1
  have d0 := h1.c0
  have d1 := h1.c1
  have d2 := (b1.cell (lt_of_cell hE.c2)).trans hE.c2
  have HENS := hide (hE.ens.below b1)
  obtain ⟨f0, f1, f2, f3⟩ := hX
  obtain ⟨b, hb⟩ : ∃ b, w.heap.size = b := ⟨_, rfl⟩
  rw [hb] at f0 f1 f2 f3 b1
  have HB := hide b1
  have HX : Hid (Box2 Y b 0 0) := hide ⟨f0, f1, f2, f3⟩
  have HG := hide (lt_of_cell d0)
  by_cases h0 : x.l.length = 0
  · have HXE : Hid (x.end_ = (x.ix, x.tm)) := hide (Lg.end_nil h0)
    rw [h0] at d2
    have HGR := hide (gtrans (grown_set Y b 0 (.int .i64 x.ix)) (grown_set (Y.setCell ⟨b, 0, none⟩ (.int .i64 x.ix)) b 1 (.int .i64 x.tm)))
    have HS := hide (HX.out.set x.ix x.tm)
    have HBZ : Hid (Below b w ((Y.setCell ⟨b, 0, none⟩ (.int .i64 x.ix)).setCell ⟨b, 1, none⟩ (.int .i64 x.tm))) := hide (b1.grown HGR.out (by have := b1.size; omega) fun k hk => by cases hk; exact Nat.le_refl _)
    clear h hE h1 b1 hfew h0
    go_enter Try.func108, Try.ntmps108
    go_wp2
    have HR := HS.out
    exact bodyPost_ret (v := .agg #[.int .i64 x.ix, .int .i64 x.tm]) (by simp [results, Try.results108, go_sem, HR.1, HR.2.1]) rfl ⟨by rw [HXE.out], by first | exact HBZ.out | (rw [hb]; exact HBZ.out)⟩
  · obtain ⟨m, hm⟩ : ∃ m, x.l.length = m + 1 := ⟨x.l.length - 1, by omega⟩
    obtain ⟨n1, hn1⟩ : ∃ n1, x.l.length = n1 := ⟨_, rfl⟩
    have he := List.getElem?_eq_getElem (l := x.l) (i := m) (by omega)
    obtain ⟨e, hee⟩ : ∃ e, x.l[m]'(by omega) = e := ⟨_, rfl⟩
    rw [hee] at he
    have HXE : Hid (x.end_ = (e.i, e.t)) := hide (Lg.end_get he (by omega))
    obtain ⟨g2, o2, pd, nd, cd, rfl, hat, hby, hnd⟩ := HENS.out.at_ he
    clear hby hnd
    rw [hn1] at d2
    obtain ⟨oo, hoo⟩ : ∃ oo, o2 + m * 3 = oo := ⟨_, rfl⟩
    rw [hoo] at hat
    have c0 := hat.c0
    have c1 := hat.c1
    have c2 := hat.c2
    dsimp only at c0 c1 c2
    have hm9 : (m : Int) ≤ 1000000 := by omega
    have es : IntKind.i64.wrap ((n1 : Int) - 1) = (m : Int) := by rw [IntKind.wrap_i64]; omega
    have j0 : (0 : Int) ≤ (m : Int) := by omega
    have j1 : (m : Int) < (n1 : Int) := by omega
    have j2 : (n1 : Int) ≤ 1000000 := by omega
    have e0 : ((n1 : Int) == 0) = false := by simp; omega
    have HEND : Hid (∀ W, Calls Try.prog 111 #[.agg #[.int .i64 e.i, .int .i64 e.t, .slice pd nd cd]] W fun e' w' => e' = .returned (.agg #[.int .i64 e.i, .int .i64 e.t]) ∧ Below W.heap.size W w') := hide fun W => endOf_any
    obtain ⟨_, _, _, _, _, hp9, hat9, _, _⟩ := hE.ens.at_ he
    injection hp9 with hp9
    injection hp9 with hp9 hp8
    have hg2 : g2 < w.heap.size := by
      have := lt_of_cell hat9.c0
      rw [← hp9] at this
      exact this
    have hg1 : g < w.heap.size := lt_of_cell hE.c2
    have kp : ∀ V, Below b w V → V.cell? ⟨g, 2, none⟩ = some (.slice (some ⟨g2, o2, none⟩) n1 c) ∧ V.cell? ⟨g2, oo, none⟩ = some (.int .i64 e.i) ∧ V.cell? ⟨g2, oo + 1, none⟩ = some (.int .i64 e.t) ∧ V.cell? ⟨g2, oo + 2, none⟩ = some (.slice pd nd cd) := fun V hV => by
      have q : ∀ (k o : Nat), k < w.heap.size → V.cell? ⟨k, o, none⟩ = Y.cell? ⟨k, o, none⟩ := fun k o hk => (hV.cell (p := ⟨k, o, none⟩) (by rw [← hb]; exact hk)).trans (HB.out.cell (p := ⟨k, o, none⟩) (by rw [← hb]; exact hk)).symm
      exact ⟨(q _ _ hg1).trans d2, (q _ _ hg2).trans c0, (q _ _ hg2).trans c1, (q _ _ hg2).trans c2⟩
    have KEEP := hide kp
    clear h hE h1 b1 hfew h0 he hee hat kp hm hn1 hat9 hp9 hp8 hg2 hg1
    go_enter Try.func108, Try.ntmps108
    go_wp2_with fail
    go_region_held3 (fun V => V.cell? ⟨g, 2, none⟩ = some (.slice (some ⟨g2, o2, none⟩) n1 c) ∧ V.cell? ⟨g2, oo, none⟩ = some (.int .i64 e.i) ∧ V.cell? ⟨g2, oo + 1, none⟩ = some (.int .i64 e.t) ∧ V.cell? ⟨g2, oo + 2, none⟩ = some (.slice pd nd cd)) (first | go_keep | exact KEEP.out _ HBO.out | exact KEEP.out _ HBP.out)
      ((go_at_call 111; (refine (HEND.out _).mono ?_); rintro e9 w5 ⟨rfl, hb5⟩; have HBY : Hid (Below Y.heap.size Y w5) := hide ((bel_drewN (Below.refl _ Y) 1).trans hb5); have HX5 := hide (HX.out.below HBY.out); have HBO : Hid (Below b w w5) := hide (HB.out.trans (HBY.out.mono (by have := HB.out.size; omega))); have HBP : Hid (Below b w ((w5.setCell ⟨b, 0, none⟩ (.int .i64 e.i)).setCell ⟨b, 1, none⟩ (.int .i64 e.t))) := hide (HBO.out.grown (gtrans (grown_set _ _ _ _) (grown_set _ _ _ _)) (by have := HBO.out.size; omega) fun k hk => by cases hk; exact Nat.le_refl _); obtain ⟨r0, r1, r2, r3⟩ := HX5.out; clear hb5))
    have HS := hide (HX5.out.set e.i e.t)
    go_wp2
    have HR := HS.out
    exact bodyPost_ret (v := .agg #[.int .i64 e.i, .int .i64 e.t]) (by simp [results, Try.results108, go_sem, HR.1, HR.2.1]) rfl ⟨by rw [HXE.out], by first | exact HBP.out | (rw [hb]; exact HBP.out)⟩

/-- A box of two numbers is laid and read. -/
theorem last_any {w : World} {g : Nat} {x : Lg} (h : LgIs w g x) : Calls Try.prog 101 #[.pointer (some ⟨g, 0, none⟩)] w fun e w' => e = .returned (.tuple #[.int .i64 x.end_.1, .int .i64 x.end_.2]) ∧ Below w.heap.size w w' := by
  have HM := hide (made_any h)
  have HE := hide (end_any h)
  obtain ⟨a, ha⟩ : ∃ a, x.end_.1 = a := ⟨_, rfl⟩
  obtain ⟨b, hb⟩ : ∃ b, x.end_.2 = b := ⟨_, rfl⟩
  rw [ha, hb] at HE
  rw [ha, hb]
  clear h ha hb
  go_enter Try.func101, Try.ntmps101
  go_wp2_with fail
  refine HM.out.mono ?_
  rintro e w9 ⟨rfl, rfl⟩
  go_wp2_with fail
  refine HE.out.mono ?_
  rintro e w2 ⟨rfl, hb2⟩
  have HB2 := hide (hb2.alloc hb2.size (.cells #[.int .i64 a, .int .i64 b] 137))
  clear hb2
  go_wp2_with fail
  go_quiet (fail)
  go_wp2
  go_ret2
  exact ⟨rfl, bel_drewN HB2.out _⟩

theorem field0 (a b : Int) (W : World) : (Instr.field 137 (.agg #[.int .i64 a, .int .i64 b]) 0).run Try.prog W = .ok (.int .i64 a) W := by kernel_rfl
def hasI (x : Lg) (n : Int) : Bool := decide (x.ix < n) && decide (n ≤ x.ix + x.l.length)
/-- What Term says. -/
def termI (x : Lg) (n : Int) : Int × Bool := x.at_ n
def freshI (x : Lg) (index term : Int) : Bool := decide (x.end_.2 < term) || (decide (term = x.end_.2) && decide (x.end_.1 ≤ index))
end Go.Proofs.Ytiiollgipfggmaa
/- Entries that are the same. -/
namespace Go.Proofs.Ytiiollgipfggmaa
set_option linter.unusedVariables false
set_option linter.unusedSimpArgs false
open Go.RowKit

theorem By.inB {w : World} {p : Option Addr} {n cap : Nat} {l : List UInt8} (h : By w (.slice p n cap) l) : Lib.BytesIn w p n (Lib.numsL l) ∧ (Lib.numsL l).length = n := by
  obtain ⟨p', cap', e, hl, hm, hn, hc⟩ := h
  injection e with e1 e2 e3
  subst e1 e2 e3
  refine ⟨?_, Lib.numsL_length l⟩
  rcases p with _ | a
  · have h0 : l.length = 0 := by have := hn rfl; omega
    rw [h0]
    exact Lib.BytesIn.nil _ _ _
  · exact Lib.BytesIn.of_cells (fun i hi => by
      rw [hc a rfl i l[i] (List.getElem?_eq_getElem hi)]
      simp [bv, Lib.numsL, List.getD, hi])
set_option maxRecDepth 200000 in
set_option maxHeartbeats 4000000 in
theorem same_any {w : World} {v u : Value} {L : List En} (hv : Ens w v L) (hu : Ens w u L) : Calls Try.prog 50 #[v, u] w fun e w' => e = .returned (.bool true) ∧ Below w.heap.size w w' := by
  obtain ⟨p, n, c, rfl⟩ := hv.sl
  obtain ⟨p2, n2, c2, rfl⟩ := hu.sl
  obtain ⟨rfl, h1, h2⟩ := hv.len
  obtain ⟨rfl, _, _⟩ := hu.len
  have h9 : (L.length : Int) ≤ 9223372036854775807 := by unfold maxLen at h2; omega
  have HV := hide hv
  have HU := hide hu
  clear hv hu h1 h2
  go_enter Try.func50, Try.ntmps50
  go_wp2_with fail
  go_loopw [5, 13] (fun _ i wr => ∃ k q : Nat, k ≤ L.length ∧ i = .int .i64 k ∧ wr = w.drewN q) (fun _ i _ => L.length - (intOf i).toNat)
  case atStart => exact ⟨0, 0, by omega, rfl, rfl⟩
  case round =>
    obtain ⟨k, q, hk, rfl, rfl⟩ := hrel
    by_cases hlt : k < L.length
    · obtain ⟨e, he⟩ : ∃ e, L[k]? = some e := ⟨_, List.getElem?_eq_getElem hlt⟩
      obtain ⟨g, o, pd, nd, cd, rfl, hat, hby, hnd⟩ := HV.out.at_ he
      obtain ⟨g', o', pd', nd', cd', rfl, hat', hby', hnd'⟩ := HU.out.at_ he
      have c0 := hat.c0
      have c1 := hat.c1
      have c2' := hat.c2
      have d0 := hat'.c0
      have d1 := hat'.c1
      have d2 := hat'.c2
      dsimp only at c0 c1 c2' d0 d1 d2
      have k1 := conv_by hby
      have k2 := conv_by hby'
      have j0 : (0 : Int) ≤ (k : Int) := by omega
      have j1 : (k : Int) < (L.length : Int) := by omega
      clear he hat hat' hby hby' hnd hnd'
      go_wp2_with fail
      go_quiet (fail)
      go_wp2
      go_roundw
      case rel => exact ⟨k + 1, _, by omega, by go_num, rfl⟩
      case measure => simp [intOf]; omega
    · go_wp2
      go_ret
      exact ⟨rfl, bel_drewN (Below.refl _ _) _⟩
end Go.Proofs.Ytiiollgipfggmaa
/- The document's ledger: what makes one. -/
namespace Go.Proofs.Ytiiollgipfggmaa
set_option linter.unusedVariables false
set_option linter.unusedSimpArgs false
open Go.RowKit

theorem rises_step (ix y : Int) (k : Nat) (e : En) (r : List En) (hf : e.fits) (hix : fits ix) (hk : (k : Int) ≤ 4611686018427387904) (hx : 0 < k → ix + k ≤ 1099511627776) (w1 w2 : Int) (h1 : IntKind.i64.wrap (e.i - 1) = w1) (h2 : IntKind.i64.wrap (w1 - k) = w2) :
    rises (ix + k) y (e :: r) = (!decide (1099511627776 < ix) && !decide (1099511627776 < e.i) && !(w2 != ix) && !decide (e.t < 1) && !decide (e.t < y) && !decide (1099511627776 < e.t) && !decide (4096 < (e.d.length : Int)) && rises e.i e.t r) := by
  conv => lhs; unfold rises
  unfold follow cnt
  obtain ⟨hf1, hf2⟩ := hf
  unfold fits at hf1 hf2 hix
  rw [IntKind.wrap_i64] at h1 h2
  have key : (decide (ix + k ≤ 1099511627776) && (decide (e.i = nxt (ix + k)) && decide (e.i ≤ 1099511627776) && decide (y ≤ e.t) && (decide (0 < e.t) && decide (e.t ≤ 1099511627776)) && decide (e.d.length ≤ 4096))) = (!decide (1099511627776 < ix) && !decide (1099511627776 < e.i) && !(w2 != ix) && !decide (e.t < 1) && !decide (e.t < y) && !decide (1099511627776 < e.t) && !decide (4096 < (e.d.length : Int))) := by
    rw [Bool.eq_iff_iff]
    simp only [Bool.and_eq_true, Bool.not_eq_true', decide_eq_true_eq, decide_eq_false_iff_not, bne_eq_false_iff_eq]
    unfold nxt
    split <;> omega
  rw [key]
set_option maxRecDepth 200000 in
set_option maxHeartbeats 4000000 in
theorem refRises_any {w : World} {ix tm : Int} {v : Value} {L : List En} (hv : Ens w v L) (hix : fits ix) (h9 : L.length ≤ 100000) : Calls Try.prog 74 #[.int .i64 ix, .int .i64 tm, v] w fun e w' => e = .returned (.bool (rises ix tm L)) ∧ Below w.heap.size w w' := by
  obtain ⟨p, n, c, rfl⟩ := hv.sl
  obtain ⟨hn, _, _⟩ := hv.len
  subst hn
  have HV := hide hv
  have HIX := hide hix
  clear hv hix
  have HN := hide h9
  have h9' : (L.length : Int) ≤ 100000 := by omega
  clear h9
  go_enter Try.func74, Try.ntmps74
  go_wp2_with fail
  go_loopw [1, 7, 8, 11] (fun t _ _ i wr => ∃ (k : Nat) (y : Int), k ≤ L.length ∧ i = .int .i64 k ∧ t = .int .i64 y ∧ Hid (rises ix tm L = rises (ix + k) y (L.drop k) ∧ (0 < k → ix + k ≤ 1099511627776) ∧ Below w.heap.size w wr)) (fun _ _ _ i _ => L.length - (intOf i).toNat)
  case atStart => exact ⟨0, tm, by omega, rfl, rfl, hide ⟨by simp, by omega, Below.refl _ _⟩⟩
  case round =>
    obtain ⟨k, y, hk, rfl, rfl, HR⟩ := hrel
    by_cases hlt : k < L.length
    · have he := List.getElem?_eq_getElem hlt
      obtain ⟨e, hee⟩ : ∃ e, L[k] = e := ⟨_, rfl⟩
      have HD : Hid (L.drop k = e :: L.drop (k + 1)) := hide (by rw [← hee]; exact List.drop_eq_getElem_cons hlt)
      rw [hee] at he
      obtain ⟨g, o, pd, nd, cd, rfl, hat, hby, hnd⟩ := (HV.out.below HR.out.2.2).at_ he
      obtain ⟨oo, hoo⟩ : ∃ oo, o + k * 3 = oo := ⟨_, rfl⟩
      rw [hoo] at hat
      have c0 := hat.c0
      have c1 := hat.c1
      have c2 := hat.c2
      dsimp only at c0 c1 c2
      have hndm : (nd : Int) ≤ 9223372036854775807 := by
        obtain ⟨_, cap, e1, h1, h2, _⟩ := hby
        injection e1
        unfold maxLen at h2
        omega
      have HEF : Hid (e.fits) := hide (HV.out.fits e (List.mem_of_getElem? he))
      obtain ⟨w1, hw1⟩ : ∃ w1, IntKind.i64.wrap (e.i - 1) = w1 := ⟨_, rfl⟩
      obtain ⟨w2, hw2⟩ : ∃ w2, IntKind.i64.wrap (w1 - (k : Int)) = w2 := ⟨_, rfl⟩
      have HST := hide (rises_step ix y k e (L.drop (k + 1)) HEF.out HIX.out (by omega) HR.out.2.1 w1 w2 hw1 hw2)
      rw [← hnd] at HST
      obtain ⟨ei, hei⟩ : ∃ ei, e.i = ei := ⟨_, rfl⟩
      obtain ⟨et, het⟩ : ∃ et, e.t = et := ⟨_, rfl⟩
      rw [hei] at c0 hw1 HST
      rw [het] at c1 HST
      have bZ : Below wr.heap.size wr (wr.alloc (.cells #[.int .i64 ei, .int .i64 et, .slice pd nd cd] 70)) := (Below.refl _ _).alloc (Nat.le_refl _) _
      have hN0 : EcAt (wr.alloc (.cells #[.int .i64 ei, .int .i64 et, .slice pd nd cd] 70)) wr.heap.size 0 ⟨ei, et, pd, nd, cd⟩ := fun j u hj => by
        rw [Nat.zero_add, cell_of_row _ wr.heap.size _ _ _ (0, 0) (heap_alloc_new wr _)]
        simpa [ecC] using hj
      obtain ⟨Z, hZ⟩ : ∃ Z, wr.alloc (.cells #[.int .i64 ei, .int .i64 et, .slice pd nd cd] 70) = Z := ⟨_, rfl⟩
      rw [hZ] at bZ hN0
      have z0 := hN0.c0
      have z1 := hN0.c1
      have z2 := hN0.c2
      rw [Nat.zero_add] at z1 z2
      dsimp only at z0 z1 z2
      have HBZ := hide (HR.out.2.2.trans (bZ.mono HR.out.2.2.size))
      have HLE : Hid (ei ≤ 1099511627776 → w2 = ix → ix ≤ 1099511627776 → ix + ((k + 1 : Nat) : Int) = ei) := hide fun a1 a2 a3 => by
        have f := HEF.out.1
        have f2 := HIX.out
        unfold fits at f f2
        rw [hei] at f
        rw [IntKind.wrap_i64] at hw1 hw2
        omega
      clear he hee hat hby hnd hei het bZ hN0
      cases t1 : decide (1099511627776 < ix)
      · cases t2 : decide (1099511627776 < ei)
        · cases t3 : (w2 != ix)
          · cases t4 : decide (et < 1)
            · cases t5 : decide (et < y)
              · cases t6 : decide (1099511627776 < et)
                · cases t7 : decide (4096 < (nd : Int))
                  · have HX : Hid (rises ix tm L = rises ei et (L.drop (k + 1))) := hide (by
                      rw [HR.out.1, HD.out, HST.out, t1, t2, t3, t4, t5, t6, t7]
                      rfl)
                    have h1 : ei ≤ 1099511627776 := by simpa using t2
                    have h2 : w2 = ix := by simpa using t3
                    have h3 : ix ≤ 1099511627776 := by simpa using t1
                    have HEQ := hide (HLE.out h1 h2 h3)
                    have HEI := hide h1
                    clear h1 h2 h3
                    go_wp2
                    go_roundw
                    case rel => exact ⟨k + 1, et, by omega, by go_num, rfl, hide ⟨by rw [HEQ.out]; exact HX.out, fun _ => by rw [HEQ.out]; exact HEI.out, HBZ.out⟩⟩
                    case measure => simp [intOf]; omega
                  · have HX : Hid (rises ix tm L = false) := hide (by
                      rw [HR.out.1, HD.out, HST.out, t1, t2, t3, t4, t5, t6, t7]
                      simp)
                    go_wp2
                    go_ret
                    exact ⟨ret_b HX.out, HBZ.out⟩
                · have HX : Hid (rises ix tm L = false) := hide (by
                    rw [HR.out.1, HD.out, HST.out, t1, t2, t3, t4, t5, t6]
                    simp)
                  go_wp2
                  go_ret
                  exact ⟨ret_b HX.out, HBZ.out⟩
              · have HX : Hid (rises ix tm L = false) := hide (by
                  rw [HR.out.1, HD.out, HST.out, t1, t2, t3, t4, t5]
                  simp)
                go_wp2
                go_ret
                exact ⟨ret_b HX.out, HBZ.out⟩
            · have HX : Hid (rises ix tm L = false) := hide (by
                rw [HR.out.1, HD.out, HST.out, t1, t2, t3, t4]
                simp)
              go_wp2
              go_ret
              exact ⟨ret_b HX.out, HBZ.out⟩
          · have HX : Hid (rises ix tm L = false) := hide (by
              rw [HR.out.1, HD.out, HST.out, t1, t2, t3]
              simp)
            go_wp2
            go_ret
            exact ⟨ret_b HX.out, HBZ.out⟩
        · have HX : Hid (rises ix tm L = false) := hide (by
            rw [HR.out.1, HD.out, HST.out, t1, t2]
            simp)
          go_wp2
          go_ret
          exact ⟨ret_b HX.out, HBZ.out⟩
      · have HX : Hid (rises ix tm L = false) := hide (by
          rw [HR.out.1, HD.out, HST.out, t1]
          simp)
        go_wp2
        go_ret
        exact ⟨ret_b HX.out, HBZ.out⟩
    · have HX : Hid (rises ix tm L = true) := hide (by
        rw [HR.out.1, List.drop_eq_nil_of_le (by omega)]
        rfl)
      go_wp2
      go_ret
      exact ⟨ret_b HX.out, HR.out.2.2⟩
end Go.Proofs.Ytiiollgipfggmaa
