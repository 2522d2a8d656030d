/- Several texts made one. -/
import Derived.Test.YtgbdjcekpdfpjaaGreatDoorDa
import Derived.OrdersIn
import Derived.RangeFuncNested
import Derived.RangeFuncLeaves
import Derived.Deep.RegionHeld3
import Derived.Shelf.Abstract
import Derived.OwnWalkIn
import Derived.TacticsInMore
import Derived.LoopNIn
import Derived.LoopIn
import Derived.Test.YtgbdjcekpdfpjaaGreatDoorShelf
import Derived.Test.YtgbdjcekpdfpjaaGreatDoorWb
import Derived.Maps.AppendAt
import Derived.Test.YtgbdjcekpdfpjaaGreatDoorWa
import Derived.Laws.OwnMore
import Derived.Sort.OwnSortedInts
import Derived.Lib.ItoaNum
import Derived.Sort.QuietTacIn
set_option linter.unusedVariables false
set_option linter.unusedSimpArgs false
namespace Go.Proofs.YtgbdjcekpdfpjaaGreatDoor
open Go.RowKit
theorem Chg.putObj {W : World} {l : Nat} (o' : Obj) : Chg W (W.putObj l o') (fun k => k = l) :=
 ⟨rfl, rfl, rfl, by simp, fun k _ hn => World.putObj_heap_other hn⟩
theorem Chg.mono' {a b : World} {S S' : Nat → Prop} (h : Chg a b S) (hs : ∀ k, S k → S' k) : Chg a b S' :=
 ⟨h.os, h.tape, h.output, h.size, fun k hk hn => h.block k hk fun h1 => hn (hs k h1)⟩
theorem Chg.of_alloc (W : World) (o : Obj) (S : Nat → Prop) : Chg W (W.alloc o) S :=
 ⟨rfl, rfl, rfl, by simp, fun k hk _ => Below.heap_alloc W o k hk⟩
theorem Chg.then {a b c : World} {S S' : Nat → Prop} (h : Chg a b S) (h' : Chg b c S') (hs : ∀ k, S' k → S k ∨ a.heap.size ≤ k) : Chg a c S :=
 ⟨h'.os.trans h.os, h'.tape.trans h.tape, h'.output.trans h.output, Nat.le_trans h.size h'.size, fun k hk hn =>
  (h'.block k (Nat.lt_of_lt_of_le hk h.size) (fun h1 => by
   rcases hs k h1 with h1 | h1
   ·exact hn h1
   ·omega)).trans (h.block k hk hn)⟩
theorem wpIn_region_any' {F : Fence} {n : Nat} {P : Program} {ops : Array Oper} {Q : Exit → Act → World → Prop} {id : Nat} {a : Act} {w : World} (hm : P.follows .mixedOrders = true)
  (h : wpAnyIn F n P .any ops Q ops.size (Array.replicate ops.size false) a w.drew) : (Code.region id ops true).wpIn F n P Q a w := wpIn_region_any hm h
theorem cell_loop {W : World} {k : Nat} {r : Loop} (h : W.heap[k]? = some (.loop r)) (o : Obj) {a : Addr} {v : Value} (hc : W.cell? a = some v) : (W.putObj k o).cell? a = some v := by
 have hne : a.block ≠ k := fun e => by
  unfold World.cell? at hc
  rw [e, h] at hc
  simp at hc
 rw [World.cell?_of_block (World.putObj_heap_other hne)]
 exact hc
theorem By.loop {W : World} {k : Nat} {r : Loop} (h : W.heap[k]? = some (.loop r)) (o : Obj) {v : Value} {l : List UInt8} (hb : By W v l) : By (W.putObj k o) v l := by
 obtain ⟨p, cap, rfl, hl, hm, hn, hcell⟩ := hb
 exact ⟨p, cap, rfl, hl, hm, hn, fun a e i x hx => cell_loop h o (hcell a e i x hx)⟩
theorem Own.loop {B : Nat} {W : World} {k : Nat} {r : Loop} (h : W.heap[k]? = some (.loop r)) (o : Obj) {v : Value} {l : List UInt8} (hb : Own B W v l) : Own B (W.putObj k o) v l := by
 rcases hb with hb | ⟨g, cap, rfl, h1, h2, h3, h4, h5, h6⟩
 ·exact .inl hb
 ·refine .inr ⟨g, cap, rfl, h1, h2, h3, fun i x hx => cell_loop h o (h4 i x hx), fun i hi => ?_, fun i hi => ?_⟩
  ·obtain ⟨u, hu⟩ := Option.isSome_iff_exists.1 (h5 i hi)
   rw [cell_loop h o hu]; rfl
  ·obtain ⟨u, hu⟩ := Option.isSome_iff_exists.1 (h5 i hi)
   have hne : g ≠ k := fun e => by
    unfold World.cell? at hu
    rw [e, h] at hu
    simp at hu
   have := h6 i hi
   unfold World.frozen? at this ⊢
   rw [show (W.putObj k o).heap[g]? = W.heap[g]? from World.putObj_heap_other hne]
   exact this
theorem RoundIn.any {n m l : Nat} {P : Program} {f : FuncId} {tmps : Array Value} {assign body : Code} {w : World} {R : Ending → World → Prop} (h : RoundIn Fence.wide n P l f tmps assign body w R) : RoundIn Fence.wide m P l f tmps assign body w R := ⟨h.1, fun c cs _ => h.2 c cs (room_wide _)⟩
theorem RoundIn.any' {n m l l2 : Nat} {P : Program} {f : FuncId} {tmps : Array Value} {assign body : Code} {w : World} {R : Ending → World → Prop} (h : RoundIn Fence.wide n P l f tmps assign body w R) : RoundIn (Fence.wide.inRound l2) m P l f tmps assign body w R := ⟨h.1, fun c cs _ => h.2 c cs (room_wide _)⟩
def Went {α : Type} (I : List α → (Nat → Prop) → World → Prop) (T : Nat → Prop) (s : List α) (M : Nat → Prop) (W W' : World) : Prop :=
 ∃ M' : Nat → Prop, I s M' W' ∧ Chg W W' M ∧ ∀ k, M' k → M k ∨ W.heap.size ≤ k ∨ T k
structure Held {α : Type} (n : Nat) (M₀ : Nat → Prop) (I : List α → (Nat → Prop) → World → Prop) : Prop where
 in_ : ∀ s M W, I s M W → ∀ k, M k → (M₀ k ∨ n ≤ k) ∧ k < W.heap.size
 chg : ∀ s M W W', I s M W → Chg W W' (fun k => n ≤ k ∧ ¬ M k) → I s M W'
def Gives {α : Type} (n : Nat) (P : Program) (gf : Nat) (lb : Array Value) (encs : α → Array Value) (Y : List α → α → (Nat → Prop) → World → Prop) (Dn : List α → Prop) (Tk : α → Nat → Prop) (M₀ : Nat → Prop) (l : Nat) (W1 : World) : Prop :=
 ∀ (J Jx : List α → (Nat → Prop) → World → Prop) (M : Nat → Prop), Held W1.heap.size M₀ J → Held W1.heap.size M₀ Jx →
  (∀ pre x M W, J pre M W → Y pre x M W → W1.heap.size ≤ W.heap.size → YieldAt Fence.wide n P l (encs x) W fun e W' => (e = .returned (.bool true) ∧ Went J (Tk x) (pre ++ [x]) M W W') ∨ (e = .returned (.bool false) ∧ Went Jx (Tk x) (pre ++ [x]) M W W')) →
  J [] M W1 → CallsIn Fence.wide n P gf (#[.func (.yield l) #[] #[]] ++ lb) W1 fun e W' => (∃ v, e = .returned v) ∧ W1.heap.size ≤ W'.heap.size ∧ ((∃ pre M', Dn pre ∧ J pre M' W') ∨ ∃ pre M', Jx pre M' W')
def rangeOut {α : Type} (I : List α → (Nat → Prop) → World → Prop) (Ix : Code → List α → (Nat → Prop) → World → Prop) (T : Nat → Prop) (s : List α) (M : Nat → Prop) (W : World) : Exit → Act → World → Prop
 | .normal, _, W' => Went I T s M W W'
 | .ret, _, W' => Went (Ix .ret) T s M W W'
 | .exit id, _, W' => Went (Ix (.exit id)) T s M W W'
 | .goto t, _, W' => Went (Ix (.goto t)) T s M W W'
 | .panic _, _, _ => False
 | .outgrown, _, _ => False
set_option maxHeartbeats 2000000 in
theorem range_any {α : Type} {n : Nat} {P : Program} {g : Operand} {ps : Array Tmp} {assign body : Code} {Q : Exit → Act → World → Prop} {a : Act} {w : World} {gf : Nat} {lb : Array Value}
  (hg : a.eval g = .func (.func gf) #[] lb) (eg : ∀ args w, (callFunc gf args).run P w = .ok (.enter gf args) w)
  {encs : α → Array Value} (hps : ∀ x, (encs x).size = ps.size) {Y : List α → α → (Nat → Prop) → World → Prop} {Dn : List α → Prop} {Tk : α → Nat → Prop} (M₀ : Nat → Prop) (hM₀ : ∀ k, M₀ k → k < w.heap.size)
  (hit : ∀ W1, Chg w W1 (fun _ => False) → W1.heap.size = w.heap.size + 2 → Gives n P gf lb encs Y Dn Tk (fun k => M₀ k ∨ k = w.heap.size + 1) (w.heap.size + 1) W1)
  (hYt : ∀ pre x (M M' : Nat → Prop) W o, (∃ r, W.heap[w.heap.size + 1]? = some (.loop r)) → (∀ k, M' k → M k) → Y pre x M W → Y pre x M' (W.putObj (w.heap.size + 1) o))
  (hTk : ∀ pre x M W k, Y pre x M W → Tk x k → w.heap.size + 2 ≤ k)
  (I : List α → (Nat → Prop) → World → Prop) (Ix : Code → List α → (Nat → Prop) → World → Prop)
  (hI : Held w.heap.size M₀ I) (hIx : ∀ c, Held w.heap.size M₀ (Ix c)) (h0 : I [] M₀ w) (a₁ : α → Act)
  (hassign : ∀ (x : α) (W : World) (K : Act → World → Prop), K (a₁ x) W →
   assign.wpIn (Fence.wide.inRound (w.heap.size + 1)) n P (Exit.then K (fun _ _ _ => False)) { tmps := (ps.zip (encs x)).foldl (fun t (p, v) => t.setIfInBounds p v) a.tmps, defers := [] } W)
  (hbody : ∀ (pre : List α) (x : α) (M : Nat → Prop) (W : World), I pre M W → Y pre x M W → w.heap.size + 2 ≤ W.heap.size →
   body.wpIn (Fence.wide.inRound (w.heap.size + 1)) n P (rangeOut I Ix (Tk x) (pre ++ [x]) M W) (a₁ x) W)
  (hdone : ∀ (pre : List α) (M : Nat → Prop) (W : World), Dn pre → I pre M W → ¬ M w.heap.size → w.heap.size + 2 ≤ W.heap.size → W.heap[w.heap.size]? = some (.deferred (some [])) → Q .normal { a with defers := { target := .collected w.heap.size, args := #[] } :: a.defers } W)
  (hstop : ∀ (c : Code) (pre : List α) (M : Nat → Prop) (W : World), Ix c pre M W → ¬ M w.heap.size → w.heap.size + 2 ≤ W.heap.size → W.heap[w.heap.size]? = some (.deferred (some [])) → c.wpIn Fence.wide n P Q { a with defers := { target := .collected w.heap.size, args := #[] } :: a.defers } W) :
  (Code.rangeFunc g ps assign body).wpIn Fence.wide n P Q a w := by
 refine wpIn_rangeFunc ?_
 intro fn hfn
 obtain ⟨rec, hrec⟩ : ∃ rec : LoopState → Option Code → Loop, rec = fun st pe => { state := st, pending := pe, fn, tmps := a.tmps, params := ps, assign, body, defers := w.heap.size } := ⟨_, rfl⟩
 obtain ⟨W1, hW1⟩ : ∃ W1, (w.alloc (.deferred (some []))).alloc (.loop (rec .ready none)) = W1 := ⟨_, rfl⟩
 have hs1 : W1.heap.size = w.heap.size + 2 := by rw [← hW1]; simp
 have hL1 : W1.heap[w.heap.size + 1]? = some (.loop (rec .ready none)) := by
  rw [← hW1]; have := World.alloc_heap_new (w.alloc (.deferred (some []))) (.loop (rec .ready none)); rwa [World.size_alloc] at this
 have hK1 : W1.heap[w.heap.size]? = some (.deferred (some [])) := by
  rw [← hW1]; exact (Below.heap_alloc _ _ _ (by simp)).trans (World.alloc_heap_new w _)
 have ht1 : ∀ S, Chg w W1 S := fun S => by rw [← hW1]; exact (Chg.of_alloc w _ S).then (Chg.of_alloc _ _ S) fun k h => .inl h
 refine ⟨w.heap.size + 1, [{ target := .collected w.heap.size, args := #[] }], W1, { target := .fn (.func gf) lb, args := #[.func (.yield (w.heap.size + 1)) #[] #[]] }, W1, gf,
  #[.func (.yield (w.heap.size + 1)) #[] #[]] ++ lb, W1, ?_, ?_, ?_, ?_, ?_, ?_⟩
 ·rw [← hW1, hrec]; exact run_enterLoop_outer _ _ _ _ _
 ·simp only [resolve, hg]
  simp [go_sem]
 ·intro f' hf'; trivial
 ·simp [invoke, go_sem, eg]
 ·intro h; simp [Fence.wide] at h
 ·have hsz : ∀ {A : World} {r : Loop}, A.heap[w.heap.size + 1]? = some (.loop r) → w.heap.size + 2 ≤ A.heap.size := fun h => (Array.getElem?_eq_some_iff.1 h).1
  -- the invariant with the books beside it
  have hbk : ∀ (I : List α → (Nat → Prop) → World → Prop) (r : Loop), Held w.heap.size M₀ I → Held W1.heap.size (fun k => M₀ k ∨ k = w.heap.size + 1)
    (fun pre M W => ∃ M0 : Nat → Prop, (∀ k, M k ↔ M0 k ∨ k = w.heap.size + 1) ∧ I pre M0 W ∧ ¬ M0 (w.heap.size + 1) ∧ ¬ M0 w.heap.size ∧ W.heap[w.heap.size + 1]? = some (.loop r) ∧ W.heap[w.heap.size]? = some (.deferred (some []))) := by
   intro I r hI
   refine ⟨?_, ?_⟩
   ·rintro s M W ⟨M0, hM, hi, hn1, hn2, hl, hk⟩ k hMk
    rcases (hM k).1 hMk with h | h
    ·obtain ⟨h1, h2⟩ := hI.in_ _ _ _ hi k h
     refine ⟨?_, h2⟩
     rcases h1 with h1 | h1
     ·exact .inl (.inl h1)
     ·by_cases e1 : k = w.heap.size
      ·subst e1; exact absurd h hn2
      ·by_cases e2 : k = w.heap.size + 1
       ·subst e2; exact absurd h hn1
       ·exact .inr (by omega)
    ·subst h
     exact ⟨.inl (.inr rfl), hsz hl⟩
   ·rintro s M W W' ⟨M0, hM, hi, hn1, hn2, hl, hk⟩ hc
    have hsl := hsz hl
    refine ⟨M0, hM, hI.chg _ _ _ _ hi (hc.mono' fun k h => ⟨by omega, fun h0 => h.2 ((hM k).2 (.inl h0))⟩), hn1, hn2, (hc.block _ (by omega) (fun h => by omega)).trans hl, (hc.block _ (by omega) (fun h => by omega)).trans hk⟩
  have hIx' : Held W1.heap.size (fun k => M₀ k ∨ k = w.heap.size + 1)
    (fun pre M W => ∃ c, ∃ M0 : Nat → Prop, (∀ k, M k ↔ M0 k ∨ k = w.heap.size + 1) ∧ Ix c pre M0 W ∧ ¬ M0 (w.heap.size + 1) ∧ ¬ M0 w.heap.size ∧ W.heap[w.heap.size + 1]? = some (.loop (rec .done (some c))) ∧ W.heap[w.heap.size]? = some (.deferred (some []))) :=
   ⟨fun s M W ⟨c, h⟩ => (hbk (Ix c) _ (hIx c)).in_ s M W h, fun s M W W' ⟨c, h⟩ hc => ⟨c, (hbk (Ix c) _ (hIx c)).chg s M W W' h hc⟩⟩
  refine (callsIn_wide.2 (callsIn_wide.1 (hit W1 (ht1 _) hs1 _ _ (fun k => M₀ k ∨ k = w.heap.size + 1) (hbk I (rec .ready none) hI) hIx' ?_ ⟨M₀, fun k => Iff.rfl, hI.chg _ _ _ _ h0 (ht1 _), fun h => by have := hM₀ _ h; omega, fun h => by have := hM₀ _ h; omega, hL1, hK1⟩))).mono ?_
  ·rintro pre x M W ⟨M0, hM, hi, hn1, hn2, hl, hk⟩ hYx hW1
   have hlt := hsz hl
   have hy := run_yield (P := P) (args := encs x) hl (by rw [hrec]; exact hps x)
   rw [hrec] at hy
   refine ⟨fn, _, assign, body, hy, roundIn_of_wpIn hfn (hassign x W _ ?_)⟩
   refine ⟨_, run_beginRound hl (by rw [hrec]), ?_⟩
   obtain ⟨V, hV⟩ : ∃ V, W.putObj (w.heap.size + 1) (.loop { rec .ready none with state := .busy }) = V := ⟨_, rfl⟩
   have hVs : V.heap.size = W.heap.size := by rw [← hV]; simp
   have hl2 : V.heap[w.heap.size + 1]? = some (.loop { rec .ready none with state := .busy }) := by rw [← hV]; exact World.putObj_heap_same (by omega)
   have hk2 : V.heap[w.heap.size]? = some (.deferred (some [])) := by rw [← hV]; exact (World.putObj_heap_other (by omega)).trans hk
   have hWV : Chg W V (fun k => k = w.heap.size + 1) := by rw [← hV]; exact Chg.putObj _
   have hiV : I pre M0 V := hI.chg _ _ _ _ hi (hWV.mono' fun k h => by subst h; exact ⟨by omega, hn1⟩)
   have hYV : Y pre x M0 V := by rw [← hV]; exact hYt _ _ M _ _ _ ⟨_, hl⟩ (fun k h => (hM k).2 (.inl h)) hYx
   show body.wpIn _ _ _ _ (a₁ x) (W.putObj (w.heap.size + 1) (.loop { rec .ready none with state := .busy }))
   rw [hV]
   refine wpIn_mono (hbody pre x M0 V hiV hYV (by omega)) ?_
   have fin : ∀ (I' : List α → (Nat → Prop) → World → Prop) (jump : Option Code) (W3 : World), Held w.heap.size M₀ I' → Went I' (Tk x) (pre ++ [x]) M0 V W3 →
     ∃ W4, (Instr.endRound (w.heap.size + 1) jump).run P W3 = .ok (.bool jump.isNone) W4 ∧
     Went (fun pre M W => ∃ M0 : Nat → Prop, (∀ k, M k ↔ M0 k ∨ k = w.heap.size + 1) ∧ I' pre M0 W ∧ ¬ M0 (w.heap.size + 1) ∧ ¬ M0 w.heap.size ∧ W.heap[w.heap.size + 1]? = some (.loop (rec (if jump.isNone then .ready else .done) jump)) ∧ W.heap[w.heap.size]? = some (.deferred (some []))) (Tk x) (pre ++ [x]) M W W4 := by
    rintro I' jump W3 hI' ⟨M', hi3, hc3, hM'⟩
    have hc3s := hc3.size
    have hl3 := (hc3.block _ (by omega) hn1).trans hl2
    have hk3 := (hc3.block _ (by omega) hn2).trans hk2
    have hr := run_endRound (P := P) jump hl3
    have hn1' : ¬ M' (w.heap.size + 1) := fun h => by
     rcases hM' _ h with h | h | h
     ·exact hn1 h
     ·omega
     ·have := hTk _ _ _ _ _ hYx h; omega
    have hn2' : ¬ M' w.heap.size := fun h => by
     rcases hM' _ h with h | h | h
     ·exact hn2 h
     ·omega
     ·have := hTk _ _ _ _ _ hYx h; omega
    refine ⟨_, hr, fun k => M' k ∨ k = w.heap.size + 1, ⟨M', fun k => Iff.rfl, hI'.chg _ _ _ _ hi3 ((Chg.putObj _).mono' fun k h => by subst h; exact ⟨by omega, hn1'⟩), hn1', hn2', ?_, (World.putObj_heap_other (by omega)).trans hk3⟩, ?_, ?_⟩
    ·rw [World.putObj_heap_same (by omega), hrec]
    ·refine (hWV.mono' fun k h => (hM k).2 (.inr h)).then ((hc3.mono' fun k h => (hM k).2 (.inl h)).then ((Chg.putObj _).mono' fun k h => (hM k).2 (.inr h)) fun k h => .inl h) fun k h => .inl h
    ·rintro k (h | h)
     ·rcases hM' k h with h | h | h
      ·exact .inl ((hM k).2 (.inl h))
      ·exact .inr (.inl (by omega))
      ·exact .inr (.inr h)
     ·exact .inl ((hM k).2 (.inr h))
   rintro e a3 W3 hp
   cases e with
   | normal =>
    obtain ⟨W4, hr, hw⟩ := fin I none W3 hI hp
    exact ⟨_, _, hr, .inl ⟨rfl, hw⟩⟩
   | ret =>
    obtain ⟨W4, hr, M', hw, h⟩ := fin _ (some .ret) W3 (hIx _) hp
    exact ⟨_, _, hr, .inr ⟨rfl, M', ⟨.ret, hw⟩, h⟩⟩
   | exit id =>
    obtain ⟨W4, hr, M', hw, h⟩ := fin _ (some (.exit id)) W3 (hIx _) hp
    exact ⟨_, _, hr, .inr ⟨rfl, M', ⟨.exit id, hw⟩, h⟩⟩
   | goto t =>
    obtain ⟨W4, hr, M', hw, h⟩ := fin _ (some (.goto t)) W3 (hIx _) hp
    exact ⟨_, _, hr, .inr ⟨rfl, M', ⟨.goto t, hw⟩, h⟩⟩
   | panic ch => exact hp.elim
   | outgrown => exact hp.elim
  ·rintro e W2 ⟨⟨v, rfl⟩, hW2, (⟨pre, M, hD, M0, hM, hi, hn1, hn2, hl, hk⟩ | ⟨pre, M, c, M0, hM, hi, hn1, hn2, hl, hk⟩)⟩
   ·have hr := run_endLoop (P := P) hl (by rw [hrec]; simp)
    rw [hrec] at hr
    exact ⟨none, _, hr, hdone pre M0 _ hD (hI.chg _ _ _ _ hi ((Chg.putObj _).mono' fun k h => by subst h; exact ⟨by omega, hn1⟩)) hn2 (by simp; omega) ((World.putObj_heap_other (by omega)).trans hk)⟩
   ·have hr := run_endLoop (P := P) hl (by rw [hrec]; simp)
    rw [hrec] at hr
    exact ⟨some c, _, hr, hstop c pre M0 _ ((hIx c).chg _ _ _ _ hi ((Chg.putObj _).mono' fun k h => by subst h; exact ⟨by omega, hn1⟩)) hn2 (by simp; omega) ((World.putObj_heap_other (by omega)).trans hk)⟩
theorem uponIn_of {n l : Nat} {P : Program} {o : Oper} {a : Act} {next next' : Act → World → Prop} {Q : Exit → Act → World → Prop} (hn : ∀ a w, next a w → next' a w) :
  ∀ r : Result Next, o.upon P a next Q r → o.uponIn (Fence.wide.inRound l) n P a next' Q r := by
 intro r h
 cases r with
 | ok x w' =>
  cases x <;> simp only [Oper.upon, Oper.uponIn] at h ⊢
  case value v => exact hn _ _ h
  case skip => exact hn _ _ h
  case defer d => exact hn _ _ h
  case enter f args =>
   refine ⟨fun h => by simp [Fence.wide, Fence.inRound] at h, (CallsIn.inRound l (callsIn_wide.2 h)).mono fun e w'' he => ?_⟩
   cases e with
   | returned v => exact hn _ _ he
   | panicked c => exact he
   | outgrown => exact he
  case row row args =>
   refine ⟨fun h => by simp [Fence.wide, Fence.inRound] at h, fun c cs _ => ?_⟩
   obtain ⟨v, w', r, s⟩ := h c cs
   exact ⟨v, w', hn _ _ r, stepsIn_wide.2 s⟩
 | halt x w' =>
  cases x <;> simp only [Oper.upon, Oper.uponIn] at h ⊢
  case panic v => exact h
def noDefer (ops : Array Oper) : Bool := ops.all fun o => match o.op with | .defer _ => false | _ => true
theorem noDefer_spec {ops : Array Oper} (h : noDefer ops = true) {i : Nat} {o : Oper} (hi : ops[i]? = some o) : ∀ c, o.op ≠ .defer c := by
 intro c hc
 unfold noDefer at h
 rw [Array.all_eq_true] at h
 obtain ⟨hlt, hi⟩ := Array.getElem?_eq_some_iff.1 hi
 have := h i hlt
 rw [hi, hc] at this
 simp at this
theorem wpOpsIn_of {n l : Nat} {P : Program} {ops : Array Oper} {Q : Exit → Act → World → Prop} (hd : noDefer ops = true) (hq : ¬ LetsOut Q) :
  ∀ (order : List Nat) (a : Act) (w : World), wpOps P ops Q order a w → wpOpsIn (Fence.wide.inRound l) n P ops Q order a w := by
 intro order
 induction order with
 | nil => exact fun _ _ h => h
 | cons i rest ih =>
  intro a w h
  simp only [wpOps, wpOpsIn] at h ⊢
  cases ho : ops[i]? with
  | none => simp only [ho] at h ⊢; exact ih _ _ h
  | some o =>
   simp only [ho] at h ⊢
   split
   ·rename_i hw
    rw [if_pos hw] at h
    rcases h with h | ⟨_, h⟩
    ·refine ⟨fun f _ => trivial, ?_⟩
     show o.uponIn _ n P a _ Q ((o.semAt (some l) a.eval).run P w)
     rw [Oper.semAt_some l a.eval o (noDefer_spec hd ho)]
     exact uponIn_of ih _ h
    ·exact absurd h hq
   ·rename_i hw
    rw [if_neg hw] at h
    exact ⟨fun f _ => trivial, ih _ _ h⟩
theorem region_in_round {n l : Nat} {P : Program} {id : Nat} {ops : Array Oper} {Q : Exit → Act → World → Prop} {S : World → Prop} {a : Act} {w : World} (hm : P.follows .mixedOrders = true)
  (hd : noDefer ops = true) (hq : ¬ LetsOut Q) (hS : S w.drew) (h : S w.drew → wpAnyH P .any ops Q S ops.size (Array.replicate ops.size false) a w.drew) :
  (Code.region id ops true).wpIn (Fence.wide.inRound l) n P Q a w :=
 wpIn_region_draw fun t => wpOpsIn_of hd hq _ _ _ (by
  simp only [Region.schedule, hm, Bool.true_or, if_true]
  exact wpAny_sound ops.size t _ a _ (wpAny_of_held _ _ _ _ (h hS)))
theorem region_in_round' {n l : Nat} {P : Program} {id : Nat} {ops : Array Oper} {Q : Exit → Act → World → Prop} {a : Act} {w : World}
  (hd : noDefer ops = true) (hq : ¬ LetsOut Q) (h : wpOps P ops Q (List.range ops.size) a w) : (Code.region id ops false).wpIn (Fence.wide.inRound l) n P Q a w :=
 wpIn_region (wpOpsIn_of hd hq _ _ _ h)
end Go.Proofs.YtgbdjcekpdfpjaaGreatDoor
namespace Go.Proofs.YtgbdjcekpdfpjaaGreatDoor
open Go.RowKit
attribute [local go_sem] Oper.semAt_some
theorem cell_heap {w w' : World} {b : Nat} (h : w'.heap[b]? = w.heap[b]?) (o : Nat) : w'.cell? ⟨b, o, none⟩ = w.cell? ⟨b, o, none⟩ := by unfold World.cell?; rw [h]
def StrsAt (w : World) (g o : Nat) (ss : List (List UInt8)) : Prop := ∀ (i : Nat) s, ss[i]? = some s → w.cell? ⟨g, o + i, none⟩ = some (.string ⟨s.toArray⟩)
def bkY (ss : List (List UInt8)) (pre : List (Int × List UInt8)) (x : Int × List UInt8) (_ : Nat → Prop) (_ : World) : Prop :=
 ∃ k, pre.length = k ∧ k < ss.length ∧ x.1 = (ss.length : Int) - 1 - k ∧ ss[ss.length - 1 - k]? = some x.2
set_option maxRecDepth 100000 in
set_option maxHeartbeats 2000000 in
theorem backward_gives {g o b c : Nat} {p : Option Addr} {ss : List (List UInt8)} {M₀ : Nat → Prop} {l : Nat} {W1 : World} (hbox : W1.cell? ⟨b, 0, none⟩ = some (.slice p ss.length c)) (hp : 0 < ss.length → p = some ⟨g, o, none⟩) (hc : ss.length ≤ 140737488355328)
  (hr : StrsAt W1 g o ss) (hb : ¬ M₀ b) (hg : ¬ M₀ g) (hgl : 0 < ss.length → g < W1.heap.size) (hcc : ss.length ≤ c) :
  Gives (α := Int × List UInt8) 3 Tryz.prog 108 #[.pointer (some ⟨b, 0, none⟩)] (fun x => #[.int .i64 x.1, .string ⟨x.2.toArray⟩]) (bkY ss) (fun pre => pre.length = ss.length) (fun _ _ => False) M₀ l W1 := by
 intro J Jx M hJ hJx hY h0
 have hbl := lt_of_cell hbox
 refine callsIn_of_wp Tryz.func108 rfl trivial ?_
 simp only [Tryz.ntmps108, List.size_toArray, List.length_cons, List.length_nil, Nat.reduceAdd, Nat.reduceSub, Array.replicate_succ, Array.replicate_zero, List.push_toArray, List.append_toArray, List.nil_append, List.cons_append]
 have HR := hide hr
 have HB := hide hbox
 have HJ := hide hJ
 have HJX := hide hJx
 have HY := hide hY
 have H0 := hide h0
 have HGL := hide hgl
 clear hr hJ hJx hY h0 hgl
 gi_wp2
 clear hbox
 gi_loopw [3] (fun v wr => ∃ (k : Nat) (pre : List (Int × List UInt8)) (M : Nat → Prop), k ≤ ss.length ∧ v = .int .i64 ((ss.length : Int) - 1 - k) ∧ pre.length = k ∧ J pre M wr ∧ W1.heap.size ≤ wr.heap.size ∧ wr.heap[b]? = W1.heap[b]? ∧ (0 < ss.length → wr.heap[g]? = W1.heap[g]?))
  (fun v _ => (intOf v + 1).toNat)
 case atStart => exact ⟨0, [], M, by omega, by go_num, rfl, H0.out, Nat.le_refl _, rfl, fun _ => rfl⟩
 case round =>
  obtain ⟨k, pre, M', hk, rfl, hpl, hj', hsz, hbb, hgg⟩ := hrel
  by_cases hlt : k < ss.length
  ·obtain rfl := hp (by omega)
   obtain ⟨s, hs⟩ : ∃ s, ss[ss.length - 1 - k]? = some s := ⟨_, List.getElem?_eq_getElem (by omega)⟩
   obtain ⟨j, hj⟩ : ∃ j, ss.length - 1 - k = j := ⟨_, rfl⟩
   have hji : (ss.length : Int) - 1 - k = (j : Int) := by omega
   have hjn : j < ss.length := by omega
   rw [hj] at hs
   have hbox : wr.cell? ⟨b, 0, none⟩ = some (.slice (some ⟨g, o, none⟩) ss.length c) := (cell_heap hbb _).trans HB.out
   have hel : wr.cell? ⟨g, o + j, none⟩ = some (.string ⟨s.toArray⟩) := (cell_heap (hgg (by omega)) _).trans (HR.out j s hs)
   obtain ⟨fn, tmps, assign, body, hy, hR⟩ := HY.out pre ((j : Int), s) M' wr hj' ⟨k, hpl, hlt, hji.symm, by rw [hj]; exact hs⟩ hsz
   dsimp only at hy
   have HE := hide hji
   have HIN := hide (HJ.out.in_ _ _ _ hj')
   rw [hji]
   have e1 : decide ((0 : Int) ≤ (j : Int)) = true := by simp
   clear hji hj' hs
   gi_wp2
   refine (RoundIn.any hR).mono ?_
   rintro e W3 (⟨rfl, M3, hJ3, hC3, hM3⟩ | ⟨rfl, M3, hJ3, hC3, hM3⟩)
   ·have HJ3 := hide hJ3
    have hnb : ¬ M' b := fun h => by
     rcases (HIN.out b h).1 with h | h
     ·exact hb h
     ·omega
    have hng : 0 < ss.length → ¬ M' g := fun h0 h => by
     rcases (HIN.out g h).1 with h | h
     ·exact hg h
     ·have := HGL.out h0; omega
    have K1 := hide ((hC3.block b (by omega) hnb).trans hbb)
    have K2 := hide fun h0 : 0 < ss.length => (hC3.block g (by have := HGL.out h0; omega) (hng h0)).trans (hgg h0)
    have K3 := hide (Nat.le_trans hsz hC3.size)
    have hbnd := hC3.size
    clear hJ3 hC3 hM3 hbox hel hR hbb hgg
    gi_wp2
    go_roundw
    case rel => exact ⟨k + 1, pre ++ [((j : Int), s)], M3, by omega, by have := HE.out; go_num, by simp; omega, HJ3.out, K3.out, K1.out, K2.out⟩
    case measure => simp [intOf] <;> omega
   ·have hbnd := hC3.size
    gi_wp2
    refine bodyPost_ret (results_none rfl _ _ _) rfl ?_
    exact ⟨⟨_, rfl⟩, Nat.le_trans hsz hbnd, .inr ⟨_, _, hJ3⟩⟩
  ·obtain rfl : k = ss.length := by omega
   have e1 : decide ((0 : Int) ≤ (ss.length : Int) - 1 - (ss.length : Int)) = false := by simp; omega
   have HE : Hid ((ss.length : Int) - 1 - (ss.length : Int) = -1) := hide (by omega)
   rw [HE.out]
   have HJ2 := hide hj'
   clear hj' e1
   gi_wp2
   go_end0
   exact ⟨⟨_, rfl⟩, hsz, .inl ⟨pre, M', hpl, HJ2.out⟩⟩
theorem backward_any {p : Option Addr} {n c : Nat} {w : World} : Calls Tryz.prog 87 #[.slice p n c] w fun e w' => e = .returned (.func (.func 108) #[] #[.pointer (some ⟨w.heap.size, 0, none⟩)]) ∧ w' = w.alloc (.cells #[.slice p n c] 103) := by
 go_enter Tryz.func87, Tryz.ntmps87
 go_wp2
 go_ret
 exact ⟨rfl, rfl⟩
end Go.Proofs.YtgbdjcekpdfpjaaGreatDoor
namespace Go.Proofs.YtgbdjcekpdfpjaaGreatDoor
open Go.RowKit
def Apart (w : World) (v u : Value) (l : List UInt8) : Prop := l = [] ∨ ∀ k, u.ownBlock = some k → v.ownBlock ≠ some k ∧ k < w.heap.size
def Gath (B : Nat) (w : World) (v : Value) (xs : List (List UInt8)) : Prop :=
 ∃ us : List Value, us.length = xs.length ∧ w.ownsRow B 40 1 v xs.length us ∧ ∀ (i : Nat) u x, us[i]? = some u → xs[i]? = some x → By w u x ∧ Apart w v u x ∧ u.oneCell' = true
theorem Gath.nil (B : Nat) (w : World) : Gath B w (.slice none 0 0) [] := ⟨[], rfl, World.ownsRow_nil _ _ _ _, fun i u x hu => by simp at hu⟩
theorem Gath.below {B : Nat} {w w' : World} {v : Value} {xs : List (List UInt8)} (h : Gath B w v xs) (hb : Below w.heap.size w w') : Gath B w' v xs := by
 obtain ⟨us, hl, ho, hu⟩ := h
 refine ⟨us, hl, row_below ho hb, fun i u x h1 h2 => ?_⟩
 obtain ⟨g1, g2, g3⟩ := hu i u x h1 h2
 refine ⟨g1.below hb, ?_, g3⟩
 rcases g2 with g2 | g2
 ·exact .inl g2
 ·exact .inr fun k hk => ⟨(g2 k hk).1, Nat.lt_of_lt_of_le (g2 k hk).2 hb.size⟩
theorem Gath.bss {B : Nat} {w : World} {v : Value} {xs : List (List UInt8)} (h : Gath B w v xs) : Bss w v xs := by
 obtain ⟨us, hl, ho, hu⟩ := h
 rcases ho.2 with ⟨rfl, h0⟩ | ⟨g, cap, cur, rfl, hB, hg, hlc, hm, hs, ht⟩
 ·obtain rfl : xs = [] := List.eq_nil_of_length_eq_zero h0
  exact Bss.nil w
 ·refine Bss.of_parts (o := 0) rfl hlc hm hl (fun i u hi => ?_) fun i u x h1 h2 => (hu i u x h1 h2).1
  have := ho.cells (g := g) rfl i u hi
  rwa [add_lit0] at this
theorem Tryz.info40 : (Tryz.prog.info? 40).map (fun i => (i.zero, i.size, i.bytes)) = some (some (.slice none 0 0), 1, 24) := by kernel_rfl
theorem run_gather {B : Nat} {w : World} {v : Value} {xs : List (List UInt8)} (h : Gath B w v xs) {q : Option Addr} {m c : Nat} {x : List UInt8} (hx : By w (.slice q m c) x) (hap : Apart w v (.slice q m c) x) (hB : B ≤ w.heap.size) (hs : xs.length ≤ 1000000) :
  ∃ v' w', (Builtin.append_ #[115, 115] 115 #[v, .slice (some ⟨w.heap.size, 0, none⟩) 1 1]).run Tryz.prog (w.alloc (.cells #[.slice q m c] 40)) = .ok v' w' ∧ Gath B w' v' (xs ++ [x]) ∧ Below B w w' := by
 obtain ⟨us, hl, ho, hu⟩ := h
 obtain ⟨i0, hi0, hz0, hz1, hz2⟩ := info_parts Tryz.info40
 have hlt := ho.lt
 have ho' := ho.alloc (.cells #[.slice q m c] 40)
 obtain ⟨v', w', hr, h1, h2, _, h4⟩ := run_append_own_at (P := Tryz.prog) (w.alloc (.cells #[.slice q m c] 40)) B 115 115 40 i0 (.slice none 0 0) 1 24 Tryz.underlying115 hi0 hz0 hz1 hz2 rfl (by decide) v xs.length us ho' ⟨w.heap.size, 0, none⟩ 1 1 [.slice q m c] rfl
  (cell_new1 _ _ _) (fun u hu => by simp at hu; subst hu; rfl) (by simp only [maxLen]; omega) (by omega) (by simp; omega)
 have hb0 : Below B w (w.alloc (.cells #[.slice q m c] 40)) := (Below.refl _ _).alloc hB _
 refine ⟨v', w', hr, ⟨us ++ [.slice q m c], by simp [hl], by simpa using h1, fun i u y hi hy => ?_⟩, hb0.grown h2 (by simp; omega) fun k hk => (ho.lt k hk).1⟩
 have key : ∀ (u : Value) (y : List UInt8), By w u y → Apart w v u y → By w' u y ∧ Apart w' v' u y := fun u y hb ha => by
  refine ⟨(hb.alloc _).grown h2 ?_, ?_⟩
  ·rcases ha with rfl | ha
   ·exact .inl rfl
   ·exact .inr fun k hk => (ha k hk).1
  ·rcases ha with rfl | ha
   ·exact .inl rfl
   ·refine .inr fun k hk => ⟨?_, ?_⟩
    ·obtain ⟨n1, n2⟩ := ha k hk
     rcases h4 with e | e
     ·rw [e]
      exact n1
     ·rw [e]
      intro e2
      injection e2 with e2
      rw [size_alloc'] at e2
      omega
    ·have := h2.size
     rw [size_alloc'] at this
     have := (ha k hk).2
     omega
 by_cases hil : i < us.length
 ·rw [List.getElem?_append_left hil] at hi
  rw [List.getElem?_append_left (by omega)] at hy
  obtain ⟨g1, g2, g3⟩ := hu i u y hi hy
  obtain ⟨k1, k2⟩ := key u y g1 g2
  exact ⟨k1, k2, g3⟩
 ·have hi1 : i = us.length := by
   have := (List.getElem?_eq_some_iff.1 hi).1
   simp at this
   omega
  subst hi1
  rw [List.getElem?_append_right (Nat.le_refl _), Nat.sub_self] at hi
  rw [hl, List.getElem?_append_right (Nat.le_refl _), Nat.sub_self] at hy
  simp at hi hy
  subst hi hy
  obtain ⟨k1, k2⟩ := key _ _ hx hap
  exact ⟨k1, k2, rfl⟩
theorem wpList_gather {w : World} {ops : Array Oper} {rest : List Oper} {o : Oper} {a : Act} {Q : Exit → Act → World → Prop} (hgd : o.guard = none) (s t : Operand)
  (ho : o.op = .call { callee := .builtin .append, args := #[s, t], argTypes := #[115, 115] }) (hty : o.type = 115) {B : Nat} {v : Value} {xs : List (List UInt8)} {q : Option Addr} {m c : Nat} {x : List UInt8}
  (hs : a.eval s = v) (ht : a.eval t = .slice (some ⟨w.heap.size, 0, none⟩) 1 1) (h : Gath B w v xs) (hx : By w (.slice q m c) x) (hap : Apart w v (.slice q m c) x) (hB : B ≤ w.heap.size) (hn : xs.length ≤ 1000000)
  (hK : ∀ v' w', Gath B w' v' (xs ++ [x]) → Below B w w' → wpList Tryz.prog ops Q rest (a.put o.dst v') w') : wpList Tryz.prog ops Q (o :: rest) a (w.alloc (.cells #[.slice q m c] 40)) := by
 obtain ⟨v', w', hr, h1, h2⟩ := run_gather h hx hap hB hn
 exact Lib.wpList_append_run_sl _ hgd s t 115 ho v _ hs ht (by rw [hty]; exact hr) (hK v' w' h1 h2)
end Go.Proofs.YtgbdjcekpdfpjaaGreatDoor
namespace Go.Proofs.YtgbdjcekpdfpjaaGreatDoor
set_option maxRecDepth 200000
set_option maxHeartbeats 2000000
open Go.RowKit
theorem pickB_bad {b r : List UInt8} {n k e : Nat} {p : List UInt8} {K E : Nat} (h : pickB b r n k e = (p, K, E)) (hE : E ≠ 0) : p = [] ∧ K = 0 := by
 unfold pickB at h
 by_cases h1 : e ≠ 0
 ·rw [if_pos h1] at h
  simp only [Prod.mk.injEq] at h
  exact ⟨h.1.symm, h.2.1.symm⟩
 ·rw [if_neg h1] at h
  by_cases h2 : 65536 < n
  ·rw [if_pos h2] at h
   simp only [Prod.mk.injEq] at h
   exact ⟨h.1.symm, h.2.1.symm⟩
  ·rw [if_neg h2] at h
   by_cases h3 : b.length < 1 + k + n + 4
   ·rw [if_pos h3] at h
    simp only [Prod.mk.injEq] at h
    exact ⟨h.1.symm, h.2.1.symm⟩
   ·rw [if_neg h3] at h
    by_cases h4 : (b.drop (1 + k + n)).take 4 = tailL (crc (b.take (1 + k + n)))
    ·rw [if_pos h4] at h
     simp only [Prod.mk.injEq] at h
     exact absurd h.2.2.symm hE
    ·rw [if_neg h4] at h
     simp only [Prod.mk.injEq] at h
     exact ⟨h.1.symm, h.2.1.symm⟩
theorem pick_bad {b : List UInt8} {p : List UInt8} {K E : Nat} (h : pickL b = (p, K, E)) (hE : E ≠ 0) : p = [] ∧ K = 0 := by
 cases b with
 | nil =>
  simp only [pickL, Prod.mk.injEq] at h
  exact ⟨h.1.symm, h.2.1.symm⟩
 | cons x r =>
  rw [pickL_cons] at h
  by_cases hx : x.toNat ≠ 93
  ·rw [if_pos hx] at h
   simp only [Prod.mk.injEq] at h
   exact ⟨h.1.symm, h.2.1.symm⟩
  ·rw [if_neg hx] at h
   exact pickB_bad h hE
theorem pick_len {b : List UInt8} {p : List UInt8} {K E : Nat} (h : pickL b = (p, K, E)) : p.length ≤ 65536 ∧ K ≤ b.length ∧ (E = 0 → 0 < K) := by
 by_cases hE : E = 0
 ·subst hE
  obtain ⟨h1, h2, h3, h4⟩ := pick_ok h
  refine ⟨h3, h1, fun _ => ?_⟩
  rw [h4]
  unfold recL front
  simp
 ·obtain ⟨rfl, rfl⟩ := pick_bad h hE
  exact ⟨by simp, Nat.zero_le _, fun h => absurd h hE⟩
def rowsL : Nat → List UInt8 → List (List UInt8) × Nat
 | 0, _ => ([], 0)
 | f + 1, b => if (pickL b).2.2 ≠ 0 then ([], 0) else ((pickL b).1 :: (rowsL f (b.drop (pickL b).2.1)).1, (pickL b).2.1 + (rowsL f (b.drop (pickL b).2.1)).2)
theorem rowsL_stop {f : Nat} {b : List UInt8} {p : List UInt8} {k e : Nat} (h : pickL b = (p, k, e)) (he : e ≠ 0) : rowsL f b = ([], 0) := by
 cases f with
 | zero => rfl
 | succ f =>
  rw [rowsL, h, if_pos he]
theorem rowsL_go {f : Nat} {b : List UInt8} {p : List UInt8} {k : Nat} (h : pickL b = (p, k, 0)) : rowsL (f + 1) b = (p :: (rowsL f (b.drop k)).1, k + (rowsL f (b.drop k)).2) := by
 rw [rowsL, h]
 simp
theorem rowsL_nil : ∀ f, rowsL f [] = ([], 0)
 | 0 => rfl
 | _ + 1 => rfl
theorem rowsL_fuel : ∀ (f g : Nat) (b : List UInt8), b.length ≤ f → b.length ≤ g → rowsL f b = rowsL g b
 | 0, g, b, hf, _ => by
  obtain rfl : b = [] := List.eq_nil_of_length_eq_zero (by omega)
  rw [rowsL_nil, rowsL_nil]
 | f + 1, 0, b, _, hg => by
  obtain rfl : b = [] := List.eq_nil_of_length_eq_zero (by omega)
  rw [rowsL_nil, rowsL_nil]
 | f + 1, g + 1, b, hf, hg => by
  obtain ⟨p, k, e, h⟩ : ∃ p k e, pickL b = (p, k, e) := ⟨_, _, _, rfl⟩
  by_cases he : e = 0
  ·subst he
   have hk := (pick_len h).2.2 rfl
   rw [rowsL_go h, rowsL_go h, rowsL_fuel f g (b.drop k) (by rw [List.length_drop]; omega) (by rw [List.length_drop]; omega)]
  ·rw [rowsL_stop h he, rowsL_stop h he]
def RowsPost (w : World) (R : List (List UInt8)) (Z : Nat) (e : Ending) (w' : World) : Prop :=
 ∃ v, e = .returned (.tuple #[v, .int .i64 Z]) ∧ Bss w' v R ∧ Below w.heap.size w w'
theorem pick_drop {l : List UInt8} {a : Nat} {p : List UInt8} {k : Nat} (h : pickL (l.drop a) = (p, k, 0)) : 0 < k ∧ a + k ≤ l.length := by
 obtain ⟨_, h2, h3⟩ := pick_len h
 rw [List.length_drop] at h2
 have := h3 rfl
 omega
theorem wireRows_any {w : World} {v : Value} {l : List UInt8} (hv : By w v l) (hl : l.length ≤ 1000000) {R : List (List UInt8)} {Z : Nat} (hR : rowsL l.length l = (R, Z)) :
  Calls Tryz.prog 112 #[v] w (RowsPost w R Z) := by
 obtain ⟨p, n, c, rfl⟩ := hv.sl
 obtain ⟨hn, hnc⟩ := hv.len
 have hmm := hv.lenMax
 have HV := hide hv
 have HN := hide hn
 have HR := hide hR
 clear hv hn hR
 go_enter Tryz.func112, Tryz.ntmps112
 go_wp2
 go_loopw [4, 5, 6, 7, 8, 9] (fun v a _ _ _ _ wr => ∃ (k : Nat) (xs : List (List UInt8)), k ≤ n ∧ a = .int .i64 k ∧ Gath w.heap.size wr v xs ∧ xs.length ≤ k ∧ Below w.heap.size w wr ∧ R = xs ++ (rowsL (n - k) (l.drop k)).1 ∧ Z = k + (rowsL (n - k) (l.drop k)).2)
  (fun _ a _ _ _ _ _ => n - (intOf a).toNat)
 case atStart => exact ⟨0, [], by omega, rfl, Gath.nil _ _, by simp, Below.refl _ _, by rw [Nat.sub_zero, List.drop_zero, HN.out, HR.out]; rfl, by rw [Nat.sub_zero, List.drop_zero, HN.out, HR.out, Nat.zero_add]⟩
 case round =>
  obtain ⟨k, xs, hk, rfl, hga, hxk, hb, hr1, hr2⟩ := hrel
  have HG := hide hga
  have H1 := hide hr1
  have H2 := hide hr2
  have hbs := hb.size
  obtain ⟨q, hcut, hF⟩ := cut_from (HV.out.below hb) hk
  obtain ⟨m1, hm1⟩ : ∃ m1, n - k = m1 := ⟨_, rfl⟩
  obtain ⟨d1, hd1⟩ : ∃ d1, c - k = d1 := ⟨_, rfl⟩
  rw [hm1, hd1] at hF
  simp only [hm1, hd1] at hcut
  have hki : (k : Int) ≤ (n : Int) := by omega
  have HM1 := hide hm1
  clear hga hr1 hr2 hm1 hd1
  obtain ⟨P, K, E, hP⟩ : ∃ P K E, pickL (l.drop k) = (P, K, E) := ⟨_, _, _, rfl⟩
  go_wp2_with fail
  refine (wirePick_any hF hP).mono ?_
  rintro e w2 ⟨v2, rfl, ho2, hb2⟩
  have hG2 := HG.out.below hb2
  have hbw2 := hb.trans (hb2.mono hbs)
  have hbs2 := hbw2.size
  by_cases hE : E ≠ 0
  ·have g1 : ((E : Int) != 0) = true := by simp; omega
   have hst : rowsL m1 (l.drop k) = ([], 0) := rowsL_stop hP hE
   have e1 : R = xs := by rw [H1.out, HM1.out, hst, List.append_nil]
   have e2 : Z = k := by rw [H2.out, HM1.out, hst]; rfl
   subst e1 e2
   have HB := hide hG2.bss
   clear hst hP hE hG2 HG H1 H2 ho2 hF hcut
   go_wp2
   go_ret2
   exact ⟨_, rfl, HB.out, hbw2⟩
  ·obtain rfl : E = 0 := by omega
   obtain ⟨p2, n2, c2, rfl⟩ := ho2.by_.sl
   obtain ⟨hK0, hKl⟩ := pick_drop hP
   have hkK : k + K ≤ n := by have := HN.out; omega
   have hap : Apart w2 u4 (.slice p2 n2 c2) P := by
    rcases ho2 with ⟨e, rfl⟩ | ⟨g, cap, e, hBg, hPl, hm, hc2, hs2, hf2⟩
    ·exact .inl rfl
    ·by_cases h0 : P = []
     ·exact .inl h0
     ·refine .inr fun j hj => ?_
      injection e with e1 _ e3
      subst e1 e3
      simp only [Value.ownBlock, Option.some.injEq] at hj
      subst hj
      have hPp : 0 < P.length := List.length_pos_iff.2 h0
      refine ⟨fun h => ?_, lt_of_cell (hc2 0 P[0] (List.getElem?_eq_getElem hPp))⟩
      obtain ⟨us, _, hou, _⟩ := HG.out
      have := (hou.lt g h).2
      omega
   have hgo := rowsL_go (f := n - k - 1) hP
   have e0 : n - k - 1 + 1 = n - k := by omega
   rw [e0, List.drop_drop, HM1.out] at hgo
   rw [rowsL_fuel (m1 - 1) (n - (k + K)) (l.drop (k + K)) (by have := HN.out; have := HM1.out; rw [List.length_drop]; omega) (by have := HN.out; rw [List.length_drop]; omega)] at hgo
   have e1 : R = (xs ++ [P]) ++ (rowsL (n - (k + K)) (l.drop (k + K))).1 := by
    rw [H1.out, HM1.out, hgo]
    simp
   have e2 : Z = (k + K) + (rowsL (n - (k + K)) (l.drop (k + K))).2 := by
    rw [H2.out, HM1.out, hgo]
    simp
    omega
   have hxl : (xs ++ [P]).length ≤ k + K := by simp; omega
   have HP2 := hide ho2.by_
   have HAP := hide hap
   have HG2 := hide hG2
   have E1 := hide e1
   have E2 := hide e2
   clear hgo e0 e1 e2 hap ho2 hG2 hP hE hF hcut HG H1 H2
   go_wp2_with (at_builtin; go_must (refine wpList_gather (v := u4) rfl _ _ rfl rfl rfl rfl HG2.out HP2.out HAP.out hbs2 (by omega) ?_); intro v3 w3 hg3 hb3)
   have hb03 := hbw2.trans hb3
   go_roundw
   case rel => exact ⟨k + K, xs ++ [P], hkK, by go_num, hg3, hxl, hb03, E1.out, E2.out⟩
   case measure => simp [intOf]; omega
theorem refRows_any {w : World} {v : Value} {l : List UInt8} (hv : By w v l) (hl : l.length ≤ 1000000) {R : List (List UInt8)} {Z : Nat} (hR : rowsL l.length l = (R, Z)) :
  Calls Tryz.prog 90 #[v] w (RowsPost w R Z) := by
 obtain ⟨p, n, c, rfl⟩ := hv.sl
 obtain ⟨hn, hnc⟩ := hv.len
 have hmm := hv.lenMax
 have HV := hide hv
 have HN := hide hn
 have HR := hide hR
 clear hv hn hR
 go_enter Tryz.func90, Tryz.ntmps90
 go_wp2
 go_loopw [4, 5, 6, 7, 8, 9] (fun v a _ _ _ _ wr => ∃ (k : Nat) (xs : List (List UInt8)), k ≤ n ∧ a = .int .i64 k ∧ Gath w.heap.size wr v xs ∧ xs.length ≤ k ∧ Below w.heap.size w wr ∧ R = xs ++ (rowsL (n - k) (l.drop k)).1 ∧ Z = k + (rowsL (n - k) (l.drop k)).2)
  (fun _ a _ _ _ _ _ => n - (intOf a).toNat)
 case atStart => exact ⟨0, [], by omega, rfl, Gath.nil _ _, by simp, Below.refl _ _, by rw [Nat.sub_zero, List.drop_zero, HN.out, HR.out]; rfl, by rw [Nat.sub_zero, List.drop_zero, HN.out, HR.out, Nat.zero_add]⟩
 case round =>
  obtain ⟨k, xs, hk, rfl, hga, hxk, hb, hr1, hr2⟩ := hrel
  have HG := hide hga
  have H1 := hide hr1
  have H2 := hide hr2
  have hbs := hb.size
  obtain ⟨q, hcut, hF⟩ := cut_from (HV.out.below hb) hk
  obtain ⟨m1, hm1⟩ : ∃ m1, n - k = m1 := ⟨_, rfl⟩
  obtain ⟨d1, hd1⟩ : ∃ d1, c - k = d1 := ⟨_, rfl⟩
  rw [hm1, hd1] at hF
  simp only [hm1, hd1] at hcut
  have hki : (k : Int) ≤ (n : Int) := by omega
  have HM1 := hide hm1
  clear hga hr1 hr2 hm1 hd1
  obtain ⟨P, K, E, hP⟩ : ∃ P K E, pickL (l.drop k) = (P, K, E) := ⟨_, _, _, rfl⟩
  go_wp2_with fail
  refine (refPick_any hF hP).mono ?_
  rintro e w2 ⟨v2, rfl, ho2, hb2⟩
  have hG2 := HG.out.below hb2
  have hbw2 := hb.trans (hb2.mono hbs)
  have hbs2 := hbw2.size
  by_cases hE : E ≠ 0
  ·have g1 : ((E : Int) != 0) = true := by simp; omega
   have hst : rowsL m1 (l.drop k) = ([], 0) := rowsL_stop hP hE
   have e1 : R = xs := by rw [H1.out, HM1.out, hst, List.append_nil]
   have e2 : Z = k := by rw [H2.out, HM1.out, hst]; rfl
   subst e1 e2
   have HB := hide hG2.bss
   clear hst hP hE hG2 HG H1 H2 ho2 hF hcut
   go_wp2
   go_ret2
   exact ⟨_, rfl, HB.out, hbw2⟩
  ·obtain rfl : E = 0 := by omega
   obtain ⟨p2, n2, c2, rfl⟩ := ho2.by_.sl
   obtain ⟨hK0, hKl⟩ := pick_drop hP
   have hkK : k + K ≤ n := by have := HN.out; omega
   have hap : Apart w2 u4 (.slice p2 n2 c2) P := by
    rcases ho2 with ⟨e, rfl⟩ | ⟨g, cap, e, hBg, hPl, hm, hc2, hs2, hf2⟩
    ·exact .inl rfl
    ·by_cases h0 : P = []
     ·exact .inl h0
     ·refine .inr fun j hj => ?_
      injection e with e1 _ e3
      subst e1 e3
      simp only [Value.ownBlock, Option.some.injEq] at hj
      subst hj
      have hPp : 0 < P.length := List.length_pos_iff.2 h0
      refine ⟨fun h => ?_, lt_of_cell (hc2 0 P[0] (List.getElem?_eq_getElem hPp))⟩
      obtain ⟨us, _, hou, _⟩ := HG.out
      have := (hou.lt g h).2
      omega
   have hgo := rowsL_go (f := n - k - 1) hP
   have e0 : n - k - 1 + 1 = n - k := by omega
   rw [e0, List.drop_drop, HM1.out] at hgo
   rw [rowsL_fuel (m1 - 1) (n - (k + K)) (l.drop (k + K)) (by have := HN.out; have := HM1.out; rw [List.length_drop]; omega) (by have := HN.out; rw [List.length_drop]; omega)] at hgo
   have e1 : R = (xs ++ [P]) ++ (rowsL (n - (k + K)) (l.drop (k + K))).1 := by
    rw [H1.out, HM1.out, hgo]
    simp
   have e2 : Z = (k + K) + (rowsL (n - (k + K)) (l.drop (k + K))).2 := by
    rw [H2.out, HM1.out, hgo]
    simp
    omega
   have hxl : (xs ++ [P]).length ≤ k + K := by simp; omega
   have HP2 := hide ho2.by_
   have HAP := hide hap
   have HG2 := hide hG2
   have E1 := hide e1
   have E2 := hide e2
   clear hgo e0 e1 e2 hap ho2 hG2 hP hE hF hcut HG H1 H2
   go_wp2_with (at_builtin; go_must (refine wpList_gather (v := u4) rfl _ _ rfl rfl rfl rfl HG2.out HP2.out HAP.out hbs2 (by omega) ?_); intro v3 w3 hg3 hb3)
   have hb03 := hbw2.trans hb3
   go_roundw
   case rel => exact ⟨k + K, xs ++ [P], hkK, by go_num, hg3, hxl, hb03, E1.out, E2.out⟩
   case measure => simp [intOf]; omega
end Go.Proofs.YtgbdjcekpdfpjaaGreatDoor
namespace Go.Proofs.YtgbdjcekpdfpjaaGreatDoor
def okFrom : Int → List Int → Bool
 | _, [] => true
 | lo, n :: r => decide (lo ≤ n) && decide (n < 7) && okFrom (n + 1) r
def okR (l : List Int) : Bool := !l.isEmpty && okFrom 0 l
theorem okFrom_mem : ∀ {lo : Int} {l : List Int}, okFrom lo l = true → ∀ x ∈ l, lo ≤ x ∧ x < 7
 | lo, [], _, x, hx => by cases hx
 | lo, n :: r, h, x, hx => by
  simp only [okFrom, Bool.and_eq_true, decide_eq_true_eq] at h
  rcases List.mem_cons.1 hx with rfl | hx
  ·exact ⟨h.1.1, h.1.2⟩
  ·have := okFrom_mem h.2 x hx
   omega
theorem okR_mem {l : List Int} (h : okR l = true) : ∀ x ∈ l, 0 ≤ x ∧ x < 7 := by
 simp only [okR, Bool.and_eq_true] at h
 exact okFrom_mem h.2
end Go.Proofs.YtgbdjcekpdfpjaaGreatDoor
namespace Go.Proofs.YtgbdjcekpdfpjaaGreatDoor
open Go.RowKit
def fits (x : Int) : Prop := -9223372036854775808 ≤ x ∧ x ≤ 9223372036854775807
def Ns (w : World) (v : Value) (l : List Int) : Prop :=
 ∃ (p : Option Addr) (c : Nat), v = .slice p l.length c ∧ l.length ≤ c ∧ c ≤ maxLen ∧ (p = none → c = 0) ∧ (∀ x ∈ l, fits x) ∧
  (0 < l.length → ∃ g o, p = some ⟨g, o, none⟩ ∧ ∀ (i : Nat) x, l[i]? = some x → w.cell? ⟨g, o + i, none⟩ = some (.int .i64 x))
theorem Ns.nil (w : World) : Ns w (.slice none 0 0) [] := ⟨none, 0, rfl, Nat.le_refl _, by simp [maxLen], fun _ => rfl, by simp, fun h => absurd h (Nat.lt_irrefl _)⟩
theorem Ns.sl {w : World} {v : Value} {l : List Int} (h : Ns w v l) : ∃ p n c, v = .slice p n c := by
 obtain ⟨p, c, e, _⟩ := h
 exact ⟨p, _, c, e⟩
theorem Ns.len {w : World} {p : Option Addr} {n c : Nat} {l : List Int} (h : Ns w (.slice p n c) l) : n = l.length ∧ n ≤ c ∧ c ≤ maxLen := by
 obtain ⟨p', c', e, hl, hm, _⟩ := h
 injection e with _ e2 e3
 subst e2 e3
 exact ⟨rfl, hl, hm⟩
theorem Ns.at_ {w : World} {p : Option Addr} {n c : Nat} {l : List Int} (h : Ns w (.slice p n c) l) (hn : 0 < n) : ∃ g o, p = some ⟨g, o, none⟩ ∧ ∀ (i : Nat) x, l[i]? = some x → w.cell? ⟨g, o + i, none⟩ = some (.int .i64 x) := by
 obtain ⟨p', c', e, _, _, _, _, hx⟩ := h
 injection e with e1 e2 e3
 subst e1 e2
 exact hx hn
theorem Ns.fits {w : World} {v : Value} {l : List Int} (h : Ns w v l) : ∀ x ∈ l, fits x := by
 obtain ⟨_, _, _, _, _, _, hf, _⟩ := h
 exact hf
theorem Ns.below {w w' : World} {v : Value} {l : List Int} (h : Ns w v l) (hb : Below w.heap.size w w') : Ns w' v l := by
 obtain ⟨p, c, rfl, hl, hm, hn, hf, hx⟩ := h
 refine ⟨p, c, rfl, hl, hm, hn, hf, fun h0 => ?_⟩
 obtain ⟨g, o, e, hx⟩ := hx h0
 exact ⟨g, o, e, fun i x hi => (hb.cell (lt_of_cell (hx i x hi))).trans (hx i x hi)⟩
def OwnN (B : Nat) (w : World) (v : Value) (l : List Int) : Prop := w.ownsRow B 3 1 v l.length (l.map (Value.int .i64)) ∧ ∀ x ∈ l, Go.Proofs.YtgbdjcekpdfpjaaGreatDoor.fits x
theorem OwnN.nil (B : Nat) (w : World) : OwnN B w (.slice none 0 0) [] := ⟨World.ownsRow_nil _ _ _ _, by simp⟩
theorem OwnN.ns {B : Nat} {w : World} {v : Value} {l : List Int} (h : OwnN B w v l) : Ns w v l := by
 obtain ⟨⟨hl, ⟨rfl, h0⟩ | ⟨g, cap, cur, rfl, hB, hh, hc, hm, hs, ht⟩⟩, hf⟩ := h
 ·obtain rfl : l = [] := List.eq_nil_of_length_eq_zero h0
  exact Ns.nil w
 ·refine ⟨_, cap, rfl, hc, hm, (fun e => by cases e), hf, fun _ => ⟨g, 0, rfl, fun i x hi => ?_⟩⟩
  have hil := (List.getElem?_eq_some_iff.1 hi).1
  have h1 : (l.map (Value.int .i64))[i]? = some (.int .i64 x) := by rw [List.getElem?_map, hi]; rfl
  rw [← ht, List.getElem?_take_of_lt (by omega), Array.getElem?_toList] at h1
  rw [Nat.zero_add, cell_of_row w g i cur _ (0, 0) hh]
  exact h1
theorem OwnN.lt {B : Nat} {w : World} {v : Value} {l : List Int} (h : OwnN B w v l) : ∀ k, v.ownBlock = some k → B ≤ k ∧ k < w.heap.size := World.ownsRow.lt h.1
theorem OwnN.below {B : Nat} {w w' : World} {v : Value} {l : List Int} (h : OwnN B w v l) (hb : Below w.heap.size w w') : OwnN B w' v l := ⟨World.ownsRow.kept (row := none) h.1 ⟨hb.os, hb.tape, hb.output, hb.size, fun k hk _ => hb.block k hk⟩ (by cases v.ownBlock <;> simp), h.2⟩
theorem OwnN.mono {B B' : Nat} {w : World} {v : Value} {l : List Int} (h : OwnN B w v l) (hB : B' ≤ B) : OwnN B' w v l := ⟨⟨h.1.1, h.1.2.imp id fun ⟨g, cap, cur, e, hb, r⟩ => ⟨g, cap, cur, e, Nat.le_trans hB hb, r⟩⟩, h.2⟩
theorem OwnN.grown {B : Nat} {w w' : World} {v : Value} {l : List Int} {row : Option Nat} (h : OwnN B w v l) (hg : w.grownBy w' row) (hne : v.ownBlock = none ∨ v.ownBlock ≠ row) : OwnN B w' v l := ⟨World.ownsRow.kept h.1 hg hne, h.2⟩
end Go.Proofs.YtgbdjcekpdfpjaaGreatDoor
namespace Go.Proofs.YtgbdjcekpdfpjaaGreatDoor
open Go.RowKit
end Go.Proofs.YtgbdjcekpdfpjaaGreatDoor
namespace Go.Proofs.YtgbdjcekpdfpjaaGreatDoor
open Go.RowKit
theorem Tryz.infoN : (Tryz.prog.info? 3).map (fun i => (i.zero, i.size, i.bytes)) = some (some (.int .i64 0), 1, 8) := by kernel_rfl
theorem ncell_one (l : List Int) : ∀ u ∈ l.map (Value.int .i64), u.oneCell' = true := by
 intro u hu
 obtain ⟨x, _, rfl⟩ := List.mem_map.1 hu
 rfl
theorem run_pushN {B : Nat} {w : World} {v : Value} {l : List Int} (h : OwnN B w v l) (x : Int) (hx : fits x) (hB : B ≤ w.heap.size) (hs : l.length ≤ 1000000) :
  ∃ v' w', (Builtin.append_ #[39, 39] 39 #[v, .slice (some ⟨w.heap.size, 0, none⟩) 1 1]).run Tryz.prog (w.alloc (.cells #[.int .i64 x] 3)) = .ok v' w' ∧ OwnN B w' v' (l ++ [x]) ∧ Below B w w' ∧ w.grownBy w' v.ownBlock := by
 obtain ⟨i0, hi0, hz0, hz1, hz2⟩ := info_parts Tryz.infoN
 have ho' := World.ownsRow.alloc h.1 (.cells #[.int .i64 x] 3)
 obtain ⟨v', w', hr, h1, h2, _, h4⟩ := run_append_own_at (P := Tryz.prog) (w.alloc (.cells #[.int .i64 x] 3)) B 39 39 3 i0 _ 1 8 Tryz.underlying39 hi0 hz0 hz1 hz2 rfl (by decide) v l.length (l.map (Value.int .i64)) ho' ⟨w.heap.size, 0, none⟩ 1 1 [.int .i64 x] rfl
  (fun j u hj => by
   rw [add_lit0, Nat.zero_add, cell_of_row _ w.heap.size j _ 3 (0, 0) (heap_alloc_new w _)]
   simpa using hj)
  (ncell_one [x]) (by simp only [maxLen]; omega) (by omega) (by simp; omega)
 have hb0 : Below B w (w.alloc (.cells #[.int .i64 x] 3)) := (Below.refl _ _).alloc hB _
 refine ⟨v', w', hr, ⟨?_, ?_⟩, hb0.grown h2 (by simp; omega) fun k hk => (World.ownsRow.lt h.1 k hk).1, ?_⟩
 ·rw [List.map_append, List.length_append]
  exact h1
 ·intro y hy
  rcases List.mem_append.1 hy with hy | hy
  ·exact h.2 y hy
  ·rw [List.mem_singleton.1 hy]
   exact hx
 ·refine ⟨h2.os, h2.tape, h2.output, ?_, fun k hk hne => ?_⟩
  ·have := h2.size
   simp at this
   omega
  ·rw [h2.block k (by simp; omega) hne]
   exact heap_alloc_old _ _ hk
theorem Ns.getD {w : World} {g o n c : Nat} {l : List Int} (h : Ns w (.slice (some ⟨g, o, none⟩) n c) l) (j : Nat) (hj : j < l.length) : w.cell? ⟨g, o + j, none⟩ = some (.int .i64 (l.getD j 0)) := by
 obtain ⟨g', o', e, hc⟩ := h.at_ (by rw [h.len.1]; omega)
 injection e with e
 injection e with e1 e2
 subst e1 e2
 rw [hc j _ (List.getElem?_eq_getElem hj), List.getD_eq_getElem?_getD, List.getElem?_eq_getElem hj]
 rfl
theorem cloneN_any {w : World} {v : Value} {l : List Int} (h : Ns w v l) (hs : l.length * 8 ≤ 140737488355328) : Calls Tryz.prog 56 #[v] w fun e w' => ∃ v', e = .returned v' ∧ OwnN w.heap.size w' v' l ∧ Below w.heap.size w w' := by
 obtain ⟨p, n, c, rfl⟩ := h.sl
 have hn := h.len
 have hnl := hn.1
 subst hnl
 by_cases h0 : 0 < l.length
 ·obtain ⟨g, o, rfl, hc⟩ := h.at_ h0
  have := Tryz.slices_Clone_int g o l.length c l w (Nat.le_refl _) hs fun j hj => h.getD j hj
  rw [List.take_length] at this
  exact this.mono fun e w' ⟨v', he, ho, _, hb⟩ => ⟨v', he, ⟨ho, h.fits⟩, hb⟩
 ·obtain rfl : l = [] := List.eq_nil_of_length_eq_zero (by omega)
  cases p with
  | none => exact (Tryz.slices_Clone_int_nil 0 c w).mono fun e w' ⟨he, hw⟩ => ⟨_, he, by rw [hw]; exact OwnN.nil _ _, by rw [hw]; exact Below.refl _ _⟩
  | some a => exact (Tryz.slices_Clone_int_zero a c w).mono fun e w' ⟨v', he, ho, _, hb⟩ => ⟨v', he, ⟨ho, h.fits⟩, hb⟩
end Go.Proofs.YtgbdjcekpdfpjaaGreatDoor
namespace Go.Proofs.YtgbdjcekpdfpjaaGreatDoor
structure Sn where
 ix : Int
 tm : Int
 vo : List Int
 da : List UInt8
deriving DecidableEq
def sn0 : Sn := ⟨0, 0, [], []⟩
def Sn.chk (s : Sn) : Nat :=
 if (decide (1 ≤ s.ix) && decide (s.ix ≤ 1099511627776) && (decide (1 ≤ s.tm) && decide (s.tm ≤ 1099511627776)) && okR s.vo) = true then (if 262144 < s.da.length then 4 else 0) else 60
def piecesL : Nat → List UInt8 → List (List UInt8)
 | 0, _ => []
 | f + 1, b => if b = [] then [] else b.take 512 :: piecesL f (b.drop 512)
def Sn.pieces (s : Sn) : List (List UInt8) := piecesL s.da.length s.da
def numB (n : Int) : List UInt8 := digits n.toNat
def numsB (l : List Int) : List UInt8 := (l.map numB).flatten
def Sn.head (s : Sn) : List UInt8 := numB s.ix ++ numB s.tm ++ numB s.vo.length ++ numsB s.vo ++ numB s.da.length
def Sn.recs (s : Sn) : List (List UInt8) := recL s.head :: s.pieces.map recL
def Sn.file (s : Sn) : List UInt8 := s.recs.flatten
def pre5 : List UInt8 := [115, 110, 97, 112, 46]
def freshN : List UInt8 := [115, 110, 97, 112, 46, 110, 101, 119]
def nameL (n : Int) : List UInt8 := pre5 ++ (Lib.itoa (10000000000000 + n)).drop 1
def Sn.name (s : Sn) : List UInt8 := if 0 < s.ix then nameL s.ix else []
def rdN (b : List UInt8) (at_ E : Nat) : Nat × Nat × Nat :=
 if E ≠ 0 then (0, at_, E) else ((readNum (b.drop at_)).1, at_ + (readNum (b.drop at_)).2.1, (readNum (b.drop at_)).2.2)
def rdNs (b : List UInt8) : Nat → Nat → Nat → List Int × Nat × Nat
 | 0, a, E => ([], a, E)
 | k + 1, a, E => (((rdN b a E).1 : Int) :: (rdNs b k (rdN b a E).2.1 (rdN b a E).2.2).1, (rdNs b k (rdN b a E).2.1 (rdN b a E).2.2).2)
def snapOf (m : Nat) (b : List UInt8) (ps : List (List UInt8)) : Sn :=
 let i := rdN b 0 0
 let t := rdN b i.2.1 i.2.2
 let n := rdN b t.2.1 t.2.2
 ⟨i.1, t.1, (rdNs b (min n.1 m) n.2.1 n.2.2).1, ps.flatten⟩
def readB (m : Nat) (b : List UInt8) : Option Sn :=
 match (rowsL b.length b).1 with
 | [] => none
 | h :: r => if (snapOf m h r).chk = 0 ∧ (snapOf m h r).file = b then some (snapOf m h r) else none
def stateL (name b : List UInt8) : Option Sn := (readB 7 b).bind fun s => if s.name = name then some s else none
end Go.Proofs.YtgbdjcekpdfpjaaGreatDoor
namespace Go.Proofs.YtgbdjcekpdfpjaaGreatDoor
open Go.RowKit
attribute [local go_sem] Oper.semAt_some
theorem piecesL_get : ∀ (f : Nat) (l : List UInt8) (k : Nat), l.length ≤ f → (piecesL f l)[k]? = if 512 * k < l.length then some ((l.drop (512 * k)).take 512) else none
 | 0, l, k, h => by
  obtain rfl : l = [] := List.eq_nil_of_length_eq_zero (by omega)
  simp [piecesL]
 | f + 1, l, k, h => by
  unfold piecesL
  by_cases h0 : l = []
  ·subst h0; simp
  ·rw [if_neg h0]
   have hl : 0 < l.length := List.length_pos_iff.2 h0
   cases k with
   | zero => simp [hl]
   | succ k =>
    rw [List.getElem?_cons_succ, piecesL_get f (l.drop 512) k (by rw [List.length_drop]; omega), List.length_drop, List.drop_drop]
    by_cases h1 : 512 * k < l.length - 512
    ·rw [if_pos h1, if_pos (by omega), show 512 + 512 * k = 512 * (k + 1) by omega]
    ·rw [if_neg h1, if_neg (by omega)]
theorem piecesL_len (f : Nat) (l : List UInt8) (h : l.length ≤ f) {k : Nat} (h1 : 512 * k < l.length → False) (h2 : ∀ j, j < k → 512 * j < l.length) : (piecesL f l).length = k := by
 have e1 : (piecesL f l).length ≤ k := by
  refine List.getElem?_eq_none_iff.1 ?_
  rw [piecesL_get f l k h, if_neg h1]
 by_cases h0 : k = 0
 ·omega
 ·have e2 := piecesL_get f l (k - 1) h
  rw [if_pos (h2 (k - 1) (by omega))] at e2
  have := (List.getElem?_eq_some_iff.1 e2).1
  omega
theorem By.below' {w w' : World} {v : Value} {l : List UInt8} (h : By w v l) (hc : Chg w w' (fun _ => False)) : By w' v l := by
 obtain ⟨p, cap, rfl, hl, hm, hn, hcell⟩ := h
 exact ⟨p, cap, rfl, hl, hm, hn, fun a e i x hx => hc.cell (hcell a e i x hx) fun h => h⟩
theorem cut_three {w : World} {p : Option Addr} {n c : Nat} {l : List UInt8} (h : By w (.slice p n c) l) {j k : Nat} (hjk : j < k) (hk : k ≤ n) :
  ∃ q, (∀ W : World, (Instr.slice 40 (.slice p n c) (some (.int .i64 (j : Int))) (some (.int .i64 (k : Int))) (some (.int .i64 (k : Int)))).run Tryz.prog W = .ok (.slice q (k - j) (k - j)) W) ∧ By w (.slice q (k - j) (k - j)) ((l.take k).drop j) := by
 have hn := h.len
 have hm := h.lenMax
 obtain ⟨q, hr, hb⟩ := cut_mid h (Nat.le_of_lt hjk) hk
 refine ⟨q, fun W => ?_, ?_⟩
 ·have h2 := hr w
  rw [run_slice_lh w 40 _ _ _ underB' .i64 .i64 _ _ (by omega) (by omega) (by omega), elemB, Tryz.sizeOf5] at h2
  rw [run_slice_lhm W 40 _ _ _ underB' .i64 .i64 .i64 _ _ _ (by omega) (by omega) (by omega) (by omega), elemB, Tryz.sizeOf5]
  have e4 : ((j : Int)).toNat = j := by omega
  have e5 : ((k : Int)).toNat = k := by omega
  simp only [e4, e5, Result.andThen, sliced, Nat.mul_one, Result.ok.injEq, Value.slice.injEq, and_true, if_neg (show ¬ c = j by omega)] at h2 ⊢
  rw [if_neg (by omega)]
  exact h2
 ·obtain ⟨p', c', e, hl, hm', hno, hc⟩ := hb
  injection e with e1 e2 e3
  subst e1 e3
  refine ⟨q, k - j, by rw [← e2], by omega, by unfold maxLen; omega, fun e => by have := hno e; omega, hc⟩
def ckY (l : List UInt8) (pre : List Value) (x : Value) (_ : Nat → Prop) (W : World) : Prop := ∃ y, (piecesL l.length l)[pre.length]? = some y ∧ By W x y
set_option maxRecDepth 100000 in
set_option maxHeartbeats 4000000 in
theorem chunk_gives {b1 b2 n c : Nat} {p : Option Addr} {l : List UInt8} {M₀ : Nat → Prop} {lp : Nat} {W1 : World} (hb1 : W1.cell? ⟨b1, 0, none⟩ = some (.slice p n c)) (hb2 : W1.cell? ⟨b2, 0, none⟩ = some (.int .i64 512))
  (hl : By W1 (.slice p n c) l) (hsm : l.length ≤ 1000000) (hn1 : ¬ M₀ b1) (hn2 : ¬ M₀ b2) (hn3 : ∀ a, p = some a → 0 < n → ¬ M₀ a.block ∧ a.block < W1.heap.size) :
  Gives (α := Value) 3 Tryz.prog 139 #[.pointer (some ⟨b1, 0, none⟩), .pointer (some ⟨b2, 0, none⟩)] (fun x => #[x]) (ckY l) (fun pre => pre.length = (piecesL l.length l).length) (fun _ _ => False) M₀ lp W1 := by
 intro J Jx M hJ hJx hY h0
 have hbl1 := lt_of_cell hb1
 have hbl2 := lt_of_cell hb2
 have hn := hl.len.1
 refine callsIn_of_wp Tryz.func139 rfl trivial ?_
 simp only [Tryz.ntmps139, List.size_toArray, List.length_cons, List.length_nil, Nat.reduceAdd, Nat.reduceSub, Array.replicate_succ, Array.replicate_zero, List.push_toArray, List.append_toArray, List.nil_append, List.cons_append]
 have HB1 := hide hb1
 have HB2 := hide hb2
 have HL := hide hl
 have HJ := hide hJ
 have HJX := hide hJx
 have HY := hide hY
 have H0 := hide h0
 have HN := hide hn
 have HN3 := hide hn3
 clear hb1 hb2 hl hJ hJx hY h0 hn hn3
 gi_wp2
 gi_loopw [4, 5] (fun v _ wr => ∃ (k : Nat) (a : Nat) (pre : List Value) (M : Nat → Prop), Hid (a = 512 * k) ∧ (∀ j, j < k → 512 * j < l.length) ∧ v = .int .i64 (a : Int) ∧ pre.length = k ∧ J pre M wr ∧ W1.heap.size ≤ wr.heap.size ∧ wr.heap[b1]? = W1.heap[b1]? ∧ wr.heap[b2]? = W1.heap[b2]? ∧ By wr (.slice p n c) l)
  (fun v _ _ => n + 600 - (intOf v).toNat)
 case atStart => exact ⟨0, 0, [], M, hide rfl, by omega, by go_num, rfl, H0.out, Nat.le_refl _, rfl, rfl, HL.out⟩
 case round =>
  obtain ⟨k, a, pre, M', HA, hjk, rfl, hpl, hj, hsz, hbb1, hbb2, hby⟩ := hrel
  have hc1 : wr.cell? ⟨b1, 0, none⟩ = some (.slice p n c) := (cell_heap hbb1 _).trans HB1.out
  have hc2 : wr.cell? ⟨b2, 0, none⟩ = some (.int .i64 512) := (cell_heap hbb2 _).trans HB2.out
  by_cases hlt : a < n
  ·obtain ⟨d, hd⟩ : ∃ d, n - a = d := ⟨_, rfl⟩
   obtain ⟨c1, hc1'⟩ : ∃ c1, c - a = c1 := ⟨_, rfl⟩
   obtain ⟨m, hm⟩ : ∃ m, min 512 d = m := ⟨_, rfl⟩
   have hd0 : 0 < d := by omega
   have hm1 : m ≤ d := by omega
   have hm0 : 0 < m := by omega
   obtain ⟨q1, hr1, _⟩ := cut_from hby (k := a) (by omega)
   obtain ⟨q2, hr2, hb2⟩ := cut_three hby (j := a) (k := a + m) (by omega) (by omega)
   rw [hd, hc1'] at hr1
   have em : a + m - a = m := by omega
   rw [em] at hr2 hb2
   have hpc : (l.take (a + m)).drop a = (l.drop (512 * k)).take 512 := by
    rw [← HA.out, List.drop_take, em]
    have h1 : (l.drop a).length = d := by rw [List.length_drop]; have := HN.out; omega
    by_cases h5 : 512 ≤ d
    ·rw [show m = 512 by omega]
    ·rw [show m = d by omega, List.take_of_length_le (by omega), List.take_of_length_le (by omega)]
   rw [hpc] at hb2
   have HPC := hide (⟨_, by rw [hpl, piecesL_get _ _ _ (Nat.le_refl _), if_pos (by have := HA.out; have := HN.out; omega)], hb2⟩ : ckY l pre (.slice q2 m m) M' wr)
   have emin : min (512 : Int) (d : Int) = (m : Int) := by omega
   have hr2' : ∀ W : World, (Instr.slice 40 (.slice p n c) (some (.int .i64 (a : Int))) (some (.int .i64 ((a : Int) + (m : Int)))) (some (.int .i64 ((a : Int) + (m : Int))))).run Tryz.prog W = .ok (.slice q2 m m) W := fun W => by
    have := hr2 W
    rw [Int.natCast_add] at this
    exact this
   have hle : a + m ≤ n := by omega
   have HDD := hide hd
   have HIN := hide (HJ.out.in_ _ _ _ hj)
   have HJ1 := hide hj
   have HBY := hide hby
   have HJK := hide hjk
   have hbig : n ≤ 1000000 := by have := HN.out; omega
   clear hr2 hd hc1' hm hb2 hpc em hj hby hjk
   have HC1 := hide hc1
   have HC2 := hide hc2
   have hcap : n ≤ c := HBY.out.len.2
   gi_wp2
   refine wpIn_wide.2 ?_
   go_quiet (fail)
   obtain ⟨X, hX⟩ : ∃ X, wr.drewN nq = X := ⟨_, rfl⟩
   have hX0 : Chg wr X (fun _ => False) := by rw [← hX]; exact (Chg.refl _ _).drewN nq
   have hc1 : X.cell? ⟨b1, 0, none⟩ = some (.slice p n c) := by rw [← hX]; exact HC1.out
   have hc2 : X.cell? ⟨b2, 0, none⟩ = some (.int .i64 512) := by rw [← hX]; exact HC2.out
   have hXs : wr.heap.size = X.heap.size := by rw [← hX]; rfl
   have hXb : ∀ j : Nat, X.heap[j]? = wr.heap[j]? := fun j => by rw [← hX]; rfl
   obtain ⟨y, hy1, hy2⟩ := HPC.out
   have hjX := HJ.out.chg _ _ _ _ HJ1.out (hX0.mono' fun k h => h.elim)
   obtain ⟨fn, tmps, assign, body, hy, hR⟩ := HY.out pre (.slice q2 m m) M' X hjX ⟨y, hy1, By.below' hy2 hX0⟩ (by omega)
   have HXB := hide hXb
   have HXS := hide hXs
   rw [hX]
   have HX0 := hide hX0
   clear hX hX0 hXb hXs hjX hy1 hy2
   gi_wp2
   refine (RoundIn.any hR).mono ?_
   rintro e W3 (⟨rfl, M3, hJ3, hC3, hM3⟩ | ⟨rfl, M3, hJ3, hC3, hM3⟩)
   ·have hnm : ∀ b, b < W1.heap.size → ¬ M₀ b → ¬ M' b := fun b hb h0 h => by
     rcases (HIN.out b h).1 with h | h
     ·exact h0 h
     ·omega
    have hXs := HXS.out
    have HJ3 := hide hJ3
    have K1 := hide ((hC3.block b1 (by omega) (hnm _ hbl1 hn1)).trans ((HXB.out _).trans hbb1))
    have K2 := hide ((hC3.block b2 (by omega) (hnm _ hbl2 hn2)).trans ((HXB.out _).trans hbb2))
    have K3 := hide (Nat.le_trans (by omega : W1.heap.size ≤ X.heap.size) hC3.size)
    have K4 : Hid (By W3 (.slice p n c) l) := hide (by
     have h1 : Chg wr W3 M' := ⟨hC3.os.trans HX0.out.os, hC3.tape.trans HX0.out.tape, hC3.output.trans HX0.out.output, by rw [hXs]; exact hC3.size, fun k hk hn => (hC3.block k (by omega) hn).trans (HXB.out k)⟩
     refine HBY.out.chg h1 (.inr fun k hk => ?_)
     cases p with
     | none => simp [Value.ownBlock] at hk
     | some ad =>
      obtain ⟨h2, h3⟩ := HN3.out ad rfl (by omega)
      have e : ad.block = k := by simpa [Value.ownBlock] using hk
      subst e
      exact hnm _ h3 h2)
    have K5 : Hid (∀ j, j < k + 1 → 512 * j < l.length) := hide (by
     intro j hj
     by_cases hjk : j < k
     ·exact HJK.out j hjk
     ·have := HA.out
      have := HN.out
      omega)
    have hbnd := hC3.size
    clear hJ3 hC3 hM3 hR hbb1 hbb2 hc1 hc2 hr1 hr2'
    have hc2 : W3.cell? ⟨b2, 0, none⟩ = some (.int .i64 512) := (cell_heap K2.out _).trans HB2.out
    gi_wp2
    go_roundw
    case rel => exact ⟨k + 1, a + 512, pre ++ [.slice q2 m m], M3, hide (by have := HA.out; omega), K5.out, by go_num, by simp; omega, HJ3.out, K3.out, K1.out, K2.out, K4.out⟩
    case measure => simp [intOf] <;> omega
   ·have hbnd := hC3.size
    have hXs := HXS.out
    have hfin : W1.heap.size ≤ W3.heap.size := by omega
    clear hc1 hc2 hr1 hr2'
    gi_wp2
    refine bodyPost_ret (results_none rfl _ _ _) rfl ?_
    exact ⟨⟨_, rfl⟩, hfin, .inr ⟨_, _, hJ3⟩⟩
  ·have e1 : decide ((a : Int) < (n : Int)) = false := by simp; omega
   have HD := hide (piecesL_len l.length l (Nat.le_refl _) (k := k) (by have := HA.out; have := HN.out; omega) hjk)
   have HJ2 := hide hj
   clear hj hjk
   gi_wp2
   go_end0
   exact ⟨⟨_, rfl⟩, hsz, .inl ⟨pre, M', by rw [HD.out]; exact hpl, HJ2.out⟩⟩
end Go.Proofs.YtgbdjcekpdfpjaaGreatDoor
