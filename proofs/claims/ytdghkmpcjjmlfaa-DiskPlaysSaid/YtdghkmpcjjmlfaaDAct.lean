/- Acts: closures that are done again. -/
import Derived.Test.YtdghkmpcjjmlfaaDHead
import Derived.Deep.RegionHeld3
namespace Go.Proofs.Ytdghkmpcjjmlfaa
open Go.RowKit

/-- An act, plainly. -/
inductive Deed where
  | put (k : List UInt8) (at_ : Nat) (b : List UInt8)
  | trim (k : List UInt8) (n : Nat)
  | move (k t : List UInt8)
  | drop (k : List UInt8)

def Deed.size : Deed → Nat
  | .put _ _ b => b.length
  | _ => 0
/-- Files behind an act of which so many bytes are torn off. -/
def Deed.run (F : Fl) (tear : Nat) : Deed → Fl
  | .put k a b => Go.Proofs.Ytdghkmpcjjmlfaa.put F k (over ((get F k).getD []) a (b.take (b.length - tear)))
  | .trim k n => Go.Proofs.Ytdghkmpcjjmlfaa.put F k (((get F k).getD []).take n)
  | .move k t => Go.Proofs.Ytdghkmpcjjmlfaa.put (del F k) t ((get F k).getD [])
  | .drop k => del F k
/-- May it be done to these files? -/
def Deed.fits (F : Fl) : Deed → Prop
  | .put k a b => a ≤ ((get F k).getD []).length ∧ ((get F k).getD []).length + b.length ≤ 140737488355328
  | .trim k n => ∃ o, get F k = some o ∧ n ≤ o.length ∧ o.length ≤ 140737488355328
  | .move k _ => ∃ o, get F k = some o
  | .drop _ => True

/-- The closure of an act: its function and what it holds, all of it in C. -/
inductive DeedAt (w : World) (C : Nat → Prop) : Nat → Array Value → Deed → Prop where
  | put {i j l at_ : Nat} {s : ByteArray} {p : Option Addr} {n c : Nat} {b : List UInt8} (h1 : w.cell? ⟨i, 0, none⟩ = some (.string s)) (h2 : w.cell? ⟨j, 0, none⟩ = some (.int .i64 at_)) (h3 : w.cell? ⟨l, 0, none⟩ = some (.slice p n c)) (hb : By w (.slice p n c) b)
      (hs : s.size ≤ maxLen) (c1 : C i) (c2 : C j) (c3 : C l) (c4 : b = [] ∨ ∀ k, (Value.slice p n c).ownBlock = some k → C k) : DeedAt w C 46 #[.pointer (some ⟨i, 0, none⟩), .pointer (some ⟨j, 0, none⟩), .pointer (some ⟨l, 0, none⟩)] (.put s.data.toList at_ b)
  | trim {i j n : Nat} {s : ByteArray} (h1 : w.cell? ⟨i, 0, none⟩ = some (.string s)) (h2 : w.cell? ⟨j, 0, none⟩ = some (.int .i64 n)) (hs : s.size ≤ maxLen) (c1 : C i) (c2 : C j) : DeedAt w C 54 #[.pointer (some ⟨i, 0, none⟩), .pointer (some ⟨j, 0, none⟩)] (.trim s.data.toList n)
  | move {i j : Nat} {s t : ByteArray} (h1 : w.cell? ⟨i, 0, none⟩ = some (.string s)) (h2 : w.cell? ⟨j, 0, none⟩ = some (.string t)) (hs : s.size ≤ maxLen) (ht : t.size ≤ maxLen) (c1 : C i) (c2 : C j) : DeedAt w C 57 #[.pointer (some ⟨i, 0, none⟩), .pointer (some ⟨j, 0, none⟩)] (.move s.data.toList t.data.toList)
  | drop {i : Nat} {s : ByteArray} (h1 : w.cell? ⟨i, 0, none⟩ = some (.string s)) (hs : s.size ≤ maxLen) (c1 : C i) : DeedAt w C 59 #[.pointer (some ⟨i, 0, none⟩)] (.drop s.data.toList)

theorem DeedAt.chg {w w' : World} {C T : Nat → Prop} {f : Nat} {cs : Array Value} {d : Deed} (h : DeedAt w C f cs d) (hc : Chg w w' T) (hd : ∀ i, C i → ¬ T i) : DeedAt w' C f cs d := by
  cases h with
  | put h1 h2 h3 hb hs c1 c2 c3 c4 =>
    exact .put (hc.cell h1 (hd _ c1)) (hc.cell h2 (hd _ c2)) (hc.cell h3 (hd _ c3)) (hb.chg hc (by
      rcases c4 with h | h
      · exact .inl h
      · exact .inr fun k hk => hd k (h k hk))) hs c1 c2 c3 c4
  | trim h1 h2 hs c1 c2 => exact .trim (hc.cell h1 (hd _ c1)) (hc.cell h2 (hd _ c2)) hs c1 c2
  | move h1 h2 hs ht c1 c2 => exact .move (hc.cell h1 (hd _ c1)) (hc.cell h2 (hd _ c2)) hs ht c1 c2
  | drop h1 hs c1 => exact .drop (hc.cell h1 (hd _ c1)) hs c1
theorem DeedAt.mono {w : World} {C C' : Nat → Prop} {f : Nat} {cs : Array Value} {d : Deed} (h : DeedAt w C f cs d) (hd : ∀ i, C i → C' i) : DeedAt w C' f cs d := by
  cases h with
  | put h1 h2 h3 hb hs c1 c2 c3 c4 =>
    exact .put h1 h2 h3 hb hs (hd _ c1) (hd _ c2) (hd _ c3) (by
      rcases c4 with h | h
      · exact .inl h
      · exact .inr fun k hk => hd k (h k hk))
  | trim h1 h2 hs c1 c2 => exact .trim h1 h2 hs (hd _ c1) (hd _ c2)
  | move h1 h2 hs ht c1 c2 => exact .move h1 h2 hs ht (hd _ c1) (hd _ c2)
  | drop h1 hs c1 => exact .drop h1 hs (hd _ c1)

/-- What an act leaves. -/
def DeedPost (w : World) (S : Nat → Prop) (b : Nat) (F : Fl) (e : Ending) (w' : World) : Prop := e = .returned (.tuple #[]) ∧ ∃ V' D', FilesIs w' (Ext S w w') b F V' D' ∧ Chg w w' S

theorem files_drewN {w : World} {S : Nat → Prop} {b : Nat} {F : Fl} {V : List UInt8 → Value} {D : DataW Value} (h : FilesIs w S b F V D) (q : Nat) : FilesIs (w.drewN q) S b F V D := h.chg ((Chg.refl w fun _ => False).drewN q) fun _ _ h => h
theorem deedPost_drewN {w : World} {S : Nat → Prop} {b : Nat} {F : Fl} {q : Nat} {e : Ending} {w' : World} (h : DeedPost (w.drewN q) S b F e w') : DeedPost w S b F e w' := by
  obtain ⟨he, V', D', hF, hC⟩ := h
  exact ⟨he, V', D', hF, hC.os, hC.tape, hC.output, hC.size, hC.block⟩

set_option maxRecDepth 200000 in
set_option maxHeartbeats 1000000 in
theorem deed_any {w : World} {S C : Nat → Prop} {b : Nat} {F : Fl} {V : List UInt8 → Value} {D : DataW Value} (h : FilesIs w S b F V D) (hn : F.length ≤ 1000000) {f : Nat} {cs : Array Value} {d : Deed} (hd : DeedAt w C f cs d) (hCS : ∀ i, C i → ¬ S i) (hf : d.fits F) {tear : Nat} (ht : tear ≤ d.size) :
    Calls Try.prog f (#[.map (some b), .int .i64 tear] ++ cs) w (DeedPost w S b (d.run F tear)) := by
  cases hd with
  | @put i j l at_ s p n c bs h1 h2 h3 hb hs c1 c2 c3 c4 =>
    have hnb := hb.len
    have hmm := hb.lenMax
    have hti : (tear : Int) ≤ (n : Int) := by unfold Deed.size at ht; simp only at ht; omega
    obtain ⟨L, hL⟩ : ∃ L, n - tear = L := ⟨_, rfl⟩
    have hLn : (n : Int) - (tear : Int) = (L : Int) := by omega
    have hw1 : IntKind.i64.wrap (L : Int) = (L : Int) := by rw [IntKind.wrap_i64]; omega
    have hw2 : IntKind.i64.wrap ((n : Int) - (tear : Int)) = (L : Int) := by rw [hLn]; exact hw1
    have hLi : (L : Int) ≤ (n : Int) := by omega
    have hcut := fun W => run_cut_to W p n c L (by omega)
    have hx := cut_to hb (k := L) (by omega)
    have hxs : bs.take L = [] ∨ ∀ i, (Value.slice p L c).ownBlock = some i → ¬ S i := by
      rcases c4 with h | h
      · exact .inl (by rw [h]; simp)
      · exact .inr fun k hk => hCS k (h k (by
          cases p with
          | none => cases hk
          | some a => exact hk))
    have hput := fun q => put_any (files_drewN h q) hn hs (at_ := at_) (hx.drewN q) hxs rfl hf.1 (by have := hf.2; rw [List.length_take]; omega)
    have hput2 : ∀ V, (∃ q, V = w.drewN q) → Calls Try.prog 47 #[.map (some b), .string s, .int .i64 at_, .slice p L c] V fun e w' => DeedPost w S b (put F s.data.toList (over ((get F s.data.toList).getD []) at_ (bs.take L))) e w' ∧ w'.cell? ⟨i, 0, none⟩ = some (.string s) ∧ w'.cell? ⟨j, 0, none⟩ = some (.int .i64 at_) ∧ w'.cell? ⟨l, 0, none⟩ = some (.slice p n c) := by
      rintro V ⟨q, rfl⟩
      refine (hput q).mono fun e w' hp => ⟨deedPost_drewN hp, ?_⟩
      obtain ⟨_, _, _, _, hc⟩ := hp
      exact ⟨hc.cell (w := w.drewN q) h1 (hCS _ c1), hc.cell (w := w.drewN q) h2 (hCS _ c2), hc.cell (w := w.drewN q) h3 (hCS _ c3)⟩
    have HPUT := hide hput2
    have e0 : Deed.run F tear (.put s.data.toList at_ bs) = put F s.data.toList (over ((get F s.data.toList).getD []) at_ (bs.take L)) := by
      show put F _ (over _ at_ (bs.take (bs.length - tear))) = _
      rw [← hnb.1, hL]
    rw [e0]
    clear hput hput2 hx hxs hb h hf ht hnb hL e0 hCS c4
    show Calls Try.prog 46 #[.map (some b), .int .i64 tear, .pointer (some ⟨i, 0, none⟩), .pointer (some ⟨j, 0, none⟩), .pointer (some ⟨l, 0, none⟩)] w _
    go_enter Try.func46, Try.ntmps46
    go_wp2_with fail
    go_region_held3 (fun W => W.cell? ⟨i, 0, none⟩ = some (.string s) ∧ W.cell? ⟨j, 0, none⟩ = some (.int .i64 at_) ∧ W.cell? ⟨l, 0, none⟩ = some (.slice p n c)) (first | exact ⟨h1, h2, h3⟩ | exact hcc) (first
      | (go_at_call 47; refine (HPUT.out _ (by first | exact ⟨_, rfl⟩ | exact ⟨0, rfl⟩ | exact ⟨1, rfl⟩)).mono ?_; rintro e w1 ⟨⟨rfl, hpost⟩, hcc⟩))
    all_goals
      go_end0
      exact ⟨rfl, hpost⟩
  | @trim i j k s h1 h2 hs c1 c2 =>
    have hop := fun q => (by obtain ⟨o, ho, hk, hl⟩ := hf; rw [ho]; exact trim_any (files_drewN h q) hn hs ho hk hl : Calls Try.prog 55 #[.map (some b), .string s, .int .i64 k] (w.drewN q) (DeedPost (w.drewN q) S b (put F s.data.toList (((get F s.data.toList).getD []).take k))))
    have hop2 : ∀ V, (∃ q, V = w.drewN q) → Calls Try.prog 55 #[.map (some b), .string s, .int .i64 k] V fun e w' => DeedPost w S b (put F s.data.toList (((get F s.data.toList).getD []).take k)) e w' ∧ w'.cell? ⟨i, 0, none⟩ = some (.string s) ∧ w'.cell? ⟨j, 0, none⟩ = some (.int .i64 k) := by
      rintro V ⟨q, rfl⟩
      refine (hop q).mono fun e w' hp => ⟨deedPost_drewN hp, ?_⟩
      obtain ⟨_, _, _, _, hc⟩ := hp
      exact ⟨hc.cell (w := w.drewN q) h1 (hCS _ c1), hc.cell (w := w.drewN q) h2 (hCS _ c2)⟩
    have HOP := hide hop2
    clear hop hop2 h hf ht hCS
    show Calls Try.prog 54 #[.map (some b), .int .i64 tear, .pointer (some ⟨i, 0, none⟩), .pointer (some ⟨j, 0, none⟩)] w (DeedPost w S b (put F s.data.toList (((get F s.data.toList).getD []).take k)))
    go_enter Try.func54, Try.ntmps54
    go_wp2_with fail
    refine (HOP.out _ ⟨0, rfl⟩).mono ?_
    rintro e w1 ⟨⟨rfl, hpost⟩, hcc⟩
    go_wp2
    go_end0
    exact ⟨rfl, hpost⟩
  | @move i j s t h1 h2 hs ht2 c1 c2 =>
    have hop := fun q => (by obtain ⟨o, ho⟩ := hf; rw [ho]; exact move_any (files_drewN h q) hn hs ht2 ho : Calls Try.prog 58 #[.map (some b), .string s, .string t] (w.drewN q) (DeedPost (w.drewN q) S b (put (del F s.data.toList) t.data.toList ((get F s.data.toList).getD []))))
    have hop2 : ∀ V, (∃ q, V = w.drewN q) → Calls Try.prog 58 #[.map (some b), .string s, .string t] V fun e w' => DeedPost w S b (put (del F s.data.toList) t.data.toList ((get F s.data.toList).getD [])) e w' ∧ w'.cell? ⟨i, 0, none⟩ = some (.string s) ∧ w'.cell? ⟨j, 0, none⟩ = some (.string t) := by
      rintro V ⟨q, rfl⟩
      refine (hop q).mono fun e w' hp => ⟨deedPost_drewN hp, ?_⟩
      obtain ⟨_, _, _, _, hc⟩ := hp
      exact ⟨hc.cell (w := w.drewN q) h1 (hCS _ c1), hc.cell (w := w.drewN q) h2 (hCS _ c2)⟩
    have HOP := hide hop2
    clear hop hop2 h hf ht hCS
    show Calls Try.prog 57 #[.map (some b), .int .i64 tear, .pointer (some ⟨i, 0, none⟩), .pointer (some ⟨j, 0, none⟩)] w (DeedPost w S b (put (del F s.data.toList) t.data.toList ((get F s.data.toList).getD [])))
    go_enter Try.func57, Try.ntmps57
    go_wp2_with fail
    refine (HOP.out _ ⟨0, rfl⟩).mono ?_
    rintro e w1 ⟨⟨rfl, hpost⟩, hcc⟩
    go_wp2
    go_end0
    exact ⟨rfl, hpost⟩
  | @drop i s h1 hs c1 =>
    have hop := fun q => (drop_any (files_drewN h q) hs : Calls Try.prog 60 #[.map (some b), .string s] (w.drewN q) (DeedPost (w.drewN q) S b (del F s.data.toList)))
    have hop2 : ∀ V, (∃ q, V = w.drewN q) → Calls Try.prog 60 #[.map (some b), .string s] V fun e w' => DeedPost w S b (del F s.data.toList) e w' ∧ w'.cell? ⟨i, 0, none⟩ = some (.string s) := by
      rintro V ⟨q, rfl⟩
      refine (hop q).mono fun e w' hp => ⟨deedPost_drewN hp, ?_⟩
      obtain ⟨_, _, _, _, hc⟩ := hp
      exact hc.cell (w := w.drewN q) h1 (hCS _ c1)
    have HOP := hide hop2
    clear hop hop2 h hf ht hCS
    show Calls Try.prog 59 #[.map (some b), .int .i64 tear, .pointer (some ⟨i, 0, none⟩)] w (DeedPost w S b (del F s.data.toList))
    go_enter Try.func59, Try.ntmps59
    go_wp2_with fail
    refine (HOP.out _ ⟨0, rfl⟩).mono ?_
    rintro e w1 ⟨⟨rfl, hpost⟩, hcc⟩
    go_wp2
    go_end0
    exact ⟨rfl, hpost⟩
end Go.Proofs.Ytdghkmpcjjmlfaa
