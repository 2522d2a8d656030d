import Derived.Test.YtionbmlicmibgaaGreatDoorShelf
import Derived.Lib.SlFresh
import Derived.Lib.SlParts
import Derived.WalkKit
import Derived.OrdersHeld
import Derived.ArgAppend
import Derived.WalkSmall
import Derived.Deep.Draws
import Derived.Deep.RegionHeld
set_option linter.unusedVariables false
set_option linter.unusedSimpArgs false
namespace Go.Proofs.YtionbmlicmibgaaGreatDoor
open Go.Proofs.Tryz
open Go.RowKit
theorem acC : type_of% @cell_of_row := @cell_of_row
theorem acD : type_of% @And.intro := @And.intro
theorem acE : type_of% @Nat.le_refl := @Nat.le_refl
theorem acF : type_of% @List.getElem?_eq_getElem := @List.getElem?_eq_getElem
theorem acG : type_of% @Below.refl := @Below.refl
theorem acH : type_of% @List.length_append := @List.length_append
theorem acI : type_of% @frozen_of_row := @frozen_of_row
theorem acJ : type_of% @Array.getElem?_eq_some_iff := @Array.getElem?_eq_some_iff
theorem acK : type_of% @heap_setCell_same := @heap_setCell_same
theorem acL : type_of% @List.getElem?_eq_some_iff := @List.getElem?_eq_some_iff
theorem acM : type_of% @World.cell?_setCell_other := @World.cell?_setCell_other
theorem acN : type_of% @Nat.le_trans := @Nat.le_trans
theorem acO : type_of% @if_neg := @if_neg
theorem acP : type_of% @List.eq_nil_of_length_eq_zero := @List.eq_nil_of_length_eq_zero
theorem acQ : type_of% @heap_alloc_new := @heap_alloc_new
theorem acR : type_of% @AllReadyH.nil := @AllReadyH.nil
theorem acS : type_of% @List.mem_of_getElem? := @List.mem_of_getElem?
theorem acT : type_of% @Prod.mk.injEq := @Prod.mk.injEq
theorem acU : type_of% @wpAnyH_ready := @wpAnyH_ready
theorem acV : type_of% @Nat.lt_of_lt_of_le := @Nat.lt_of_lt_of_le
theorem acW : type_of% @if_pos := @if_pos
theorem acX : type_of% @Lib.cell?_alloc_some := @Lib.cell?_alloc_some
theorem acY : type_of% @List.take_of_length_le := @List.take_of_length_le
theorem acZ : type_of% @List.length_cons := @List.length_cons
theorem ac0 : type_of% @bodyPost_ret := @bodyPost_ret
theorem ac1 : type_of% @decide_eq_false := @decide_eq_false
theorem ac2 : type_of% @Nat.zero_add := @Nat.zero_add
theorem ac3 : type_of% @Option.some.inj := @Option.some.inj
theorem ac4 : type_of% @decide_eq_true := @decide_eq_true
theorem ac5 : type_of% @List.take_add_one := @List.take_add_one
theorem ac6 : type_of% @List.length_take := @List.length_take
theorem ac7 : type_of% @List.append_assoc := @List.append_assoc
theorem ac8 : type_of% @List.mem_cons_self := @List.mem_cons_self
theorem ac9 : type_of% @List.mem_cons := @List.mem_cons
theorem ac_ : type_of% @List.pairwise_cons := @List.pairwise_cons
theorem ada : type_of% @World.grownBy_alloc := @World.grownBy_alloc
theorem adb : type_of% @Bool.and_eq_true := @Bool.and_eq_true
theorem ade : type_of% @List.mem_cons_of_mem := @List.mem_cons_of_mem
theorem adf : type_of% @heap_setCell_other := @heap_setCell_other
theorem adg : type_of% @List.length_drop := @List.length_drop
theorem adh : type_of% @List.append_nil := @List.append_nil
theorem adi : type_of% @World.cell?_of_block := @World.cell?_of_block
theorem adj : type_of% @beq_eq_false_iff_ne := @beq_eq_false_iff_ne
theorem adk : type_of% @World.grownBy.refl := @World.grownBy.refl
theorem adl : type_of% @List.all_eq_true := @List.all_eq_true
theorem adn : type_of% @List.setIfInBounds_toArray := @List.setIfInBounds_toArray
theorem ado : type_of% @wp_region_held_drew := @wp_region_held_drew
theorem adp : type_of% @Option.some.injEq := @Option.some.injEq
theorem adq : type_of% @Nat.zero_le := @Nat.zero_le
theorem adr : type_of% @decide_eq_true_eq := @decide_eq_true_eq
theorem ads : type_of% @List.mem_map := @List.mem_map
theorem adt : type_of% @List.flatMap_append := @List.flatMap_append
theorem adu : type_of% @underlying32 := @underlying32
theorem adv : type_of% @List.length_map := @List.length_map
theorem adw : type_of% @List.flatMap_cons := @List.flatMap_cons
theorem adx : type_of% @List.find?_cons := @List.find?_cons
theorem ady : type_of% @World.ownsRow.alloc := @World.ownsRow.alloc
theorem adz : type_of% @List.mem_flatMap := @List.mem_flatMap
theorem adA : type_of% @World.ownsRow.lt := @World.ownsRow.lt
theorem adB : type_of% @World.cell?_setCell_same := @World.cell?_setCell_same
theorem adC : type_of% @Lib.wpList_append_run_sl := @Lib.wpList_append_run_sl
theorem adD : type_of% @List.mem_of_mem_take := @List.mem_of_mem_take
theorem adE : type_of% @List.nil_append := @List.nil_append
theorem adF : type_of% @List.length_filter_le := @List.length_filter_le
theorem adG : type_of% @Option.isSome_iff_exists := @Option.isSome_iff_exists
theorem adH : type_of% @List.set_cons_succ := @List.set_cons_succ
theorem adI : type_of% @List.set_cons_zero := @List.set_cons_zero
theorem adJ : type_of% @Bool.eq_false_iff := @Bool.eq_false_iff
theorem adK : type_of% @run_append_own_at := @run_append_own_at
theorem adL : type_of% @List.drop_eq_getElem_cons := @List.drop_eq_getElem_cons
theorem adM : type_of% @info_parts := @info_parts
theorem adN : type_of% @World.frozen?_setCell := @World.frozen?_setCell
theorem adO : type_of% @wpAnyH_done := @wpAnyH_done
theorem adP : type_of% @List.length_pos_iff := @List.length_pos_iff
theorem adQ : type_of% @List.getElem?_take_of_lt := @List.getElem?_take_of_lt
theorem adR : type_of% @World.frozen?_of_block := @World.frozen?_of_block
theorem adS : type_of% @List.getElem?_map := @List.getElem?_map
theorem adT : type_of% @List.mem_filter := @List.mem_filter
theorem adU : type_of% @List.filter_cons_of_neg := @List.filter_cons_of_neg
theorem adV : type_of% @World.ownsRow.kept := @World.ownsRow.kept
theorem adW : type_of% @List.filter_cons_of_pos := @List.filter_cons_of_pos
theorem adX : type_of% @World.cell?_alloc_new := @World.cell?_alloc_new
theorem adY : type_of% @Bool.true_and := @Bool.true_and
theorem adZ : type_of% @Array.getElem?_toList := @Array.getElem?_toList
theorem ad1 : type_of% @List.mem_append := @List.mem_append
theorem ad2 : type_of% @List.getElem?_cons_zero := @List.getElem?_cons_zero
theorem ad3 : type_of% @run_callFunc_extern := @run_callFunc_extern
theorem ad4 : type_of% @Array.length_toList := @Array.length_toList
theorem ad5 : type_of% @WalkArith.wf_i64 := @WalkArith.wf_i64
theorem ad6 : type_of% @List.getElem?_append_right := @List.getElem?_append_right
theorem ad7 : type_of% @List.map_cons := @List.map_cons
theorem ad8 : type_of% @List.length_nil := @List.length_nil
theorem ad9 : type_of% @List.take_length := @List.take_length
theorem ad_ : type_of% @List.not_mem_nil := @List.not_mem_nil
theorem aea : type_of% @List.getElem?_append_left := @List.getElem?_append_left
theorem aeb : type_of% @List.take_append_drop := @List.take_append_drop
theorem aec : type_of% @congrArg := @congrArg
theorem aed : type_of% @List.map_append := @List.map_append
theorem aee : type_of% @underlying3 := @underlying3
theorem aef : type_of% @Option.filter_some := @Option.filter_some
theorem aeg : type_of% @List.length_eq_zero_iff := @List.length_eq_zero_iff
theorem aeh : type_of% @List.getElem?_cons_succ := @List.getElem?_cons_succ
theorem aei : type_of% @List.drop_eq_nil_of_le := @List.drop_eq_nil_of_le
theorem aej : type_of% @List.flatten_cons := @List.flatten_cons
theorem aek : type_of% @List.Pairwise.nil := @List.Pairwise.nil
theorem ael : type_of% @underlying171 := @underlying171
theorem aem : type_of% @Bool.eq_iff_iff := @Bool.eq_iff_iff
theorem aen : type_of% @List.pairwise_iff_getElem := @List.pairwise_iff_getElem
theorem aeo : type_of% @List.mem_singleton := @List.mem_singleton
theorem aep : type_of% @Option.getD_some := @Option.getD_some
theorem aeq : type_of% @ntmps65 := @ntmps65
theorem aer : type_of% @ntmps21 := @ntmps21
theorem aes : type_of% @List.pairwise_append := @List.pairwise_append
theorem aeu : type_of% @run_underlying := @run_underlying
theorem aev : type_of% @trivial := @trivial
theorem aew : type_of% @Bool.not_eq_true' := @Bool.not_eq_true'
theorem aex : type_of% @World.ownsRow_nil := @World.ownsRow_nil
theorem aey : type_of% @Option.map_eq_some_iff := @Option.map_eq_some_iff
theorem aez : type_of% @Nat.lt_irrefl := @Nat.lt_irrefl
theorem aeA : type_of% @func65 := @func65
theorem aeB : type_of% @func21 := @func21
theorem aeC : type_of% @List.filter_append := @List.filter_append
theorem aeD : type_of% @List.mem_append_right := @List.mem_append_right
theorem aeE : type_of% @IntKind.wrap_i64 := @IntKind.wrap_i64
theorem aeF : type_of% @List.length_singleton := @List.length_singleton
theorem aeG : type_of% @List.mem_of_find?_eq_some := @List.mem_of_find?_eq_some
theorem aeH : type_of% @List.filter_congr := @List.filter_congr
theorem aeI : type_of% @List.all_cons := @List.all_cons
theorem aeJ : type_of% @underlying168 := @underlying168
theorem aeK : type_of% @List.filter_sublist := @List.filter_sublist
theorem aeL : type_of% @decide_eq_decide := @decide_eq_decide
theorem aeM : type_of% @List.pairwise_singleton := @List.pairwise_singleton
theorem aeN : type_of% @heap_alloc_old := @heap_alloc_old
theorem aeO : type_of% @List.map_map := @List.map_map
theorem aeP : type_of% @List.find?_eq_none := @List.find?_eq_none
theorem aeQ : type_of% @underlying22 := @underlying22
theorem aeR : type_of% @List.all_append := @List.all_append
theorem aeS : type_of% @Int.natCast_add := @Int.natCast_add
theorem aeT : type_of% @Maps.atKey_of_not_has := @Maps.atKey_of_not_has
theorem aeU : type_of% @List.mem_append_left := @List.mem_append_left
theorem aeV : type_of% @Nat.pow_le_pow_right := @Nat.pow_le_pow_right
theorem aeW : type_of% @Array.getElem?_append_left := @Array.getElem?_append_left
theorem aeX : type_of% @List.flatMap_def := @List.flatMap_def
theorem aeY : type_of% @underlying230 := @underlying230
theorem aeZ : type_of% @List.cons_append := @List.cons_append
theorem ae0 : type_of% @UInt8.not_lt := @UInt8.not_lt
theorem ae1 : type_of% @getElem!_pos := @getElem!_pos
theorem ae2 : type_of% @List.filter_eq_self := @List.filter_eq_self
theorem ae3 : type_of% @results111 := @results111
theorem ae4 : type_of% @List.length_flatten := @List.length_flatten
theorem ae5 : type_of% @underlying23 := @underlying23
theorem ae6 : type_of% @Option.map_some := @Option.map_some
theorem ae7 : type_of% @ByteArray.toList_eq := @ByteArray.toList_eq
theorem ae8 : type_of% @Nat.mod_lt := @Nat.mod_lt
theorem ae9 : type_of% @decide_eq_false_iff_not := @decide_eq_false_iff_not
theorem ae_ : type_of% @Maps.has_put_other := @Maps.has_put_other
theorem afa : type_of% @Nat.sub_self := @Nat.sub_self
theorem afb : type_of% @underlying9 := @underlying9
theorem afc : type_of% @List.drop_zero := @List.drop_zero
theorem afd : type_of% @or_false := @or_false
theorem afe : type_of% @Nat.le_of_lt := @Nat.le_of_lt
theorem afg : type_of% @List.getElem?_toArray := @List.getElem?_toArray
theorem afh : type_of% @wpList_append_own := @wpList_append_own
theorem afi : type_of% @World.ownsRow_lit := @World.ownsRow_lit
theorem afj : type_of% @ntmps111 := @ntmps111
theorem afk : type_of% @underlying262 := @underlying262
theorem afl : type_of% @ntmps18 := @ntmps18
theorem afm : type_of% @func111 := @func111
theorem afn : type_of% @underlying88 := @underlying88
section
variable {P : Program} {ops : Array Oper} {Q : Exit → Act → World → Prop} {md : Region.Mode} {S : World → Prop} {i : Nat} {oi : Oper} {v : Value} {fuel : Nat} {listed : Array Bool} {a : Act} {w : World}
theorem fy (hi : ops[i]? = some oi) (hw : Region.wanted oi (yielded ops a.tmps) = true) (hv : ∀ w, S w → (execOp a.eval oi).run P w = .ok (.value v) w)
    (h : wpAnyH P md ops Q S fuel (listed.setIfInBounds i true) (a.put oi.dst v) w) (hs : Region.noSelect ops = true := by kernel_rfl) (hf : Region.free md ops listed i = true := by kernel_rfl) (hr : (Region.ready md ops listed).contains i = true := by kernel_rfl)
    (hQ : ∀ c a w, Q (.panic c) (a.put oi.dst v) w → Q (.panic c) a w := by exact fun _ _ _ h => h) (hS : S w := by assumption) : wpAnyH P md ops Q S (fuel + 1) listed a w := wpAnyH_take hi hs hf hr hQ (Or.inl ⟨hw, hv⟩) hS h
theorem tkO (hi : ops[i]? = some oi) (hw : Region.wanted oi (yielded ops a.tmps) = false)
    (h : wpAnyH P md ops Q S fuel (listed.setIfInBounds i true) (a.put oi.dst undef) w) (hs : Region.noSelect ops = true := by kernel_rfl) (hf : Region.free md ops listed i = true := by kernel_rfl) (hr : (Region.ready md ops listed).contains i = true := by kernel_rfl)
    (hQ : ∀ c a w, Q (.panic c) (a.put oi.dst undef) w → Q (.panic c) a w := by exact fun _ _ _ h => h) (hS : S w := by assumption) : wpAnyH P md ops Q S (fuel + 1) listed a w := wpAnyH_take hi hs hf hr hQ (Or.inr ⟨hw, rfl⟩) hS h
end
theorem qA {α : Type _} (l : List α) (i : Nat) (a : α) : l.toArray.setIfInBounds i a = (l.set i a).toArray := adn ..
theorem qB {α : Type _} (x : α) (l : List α) (a : α) : (x :: l).set 0 a = a :: l := adI ..
theorem qC {α : Type _} (x : α) (l : List α) (i : Nat) (a : α) : (x :: l).set (i + 1) a = x :: l.set i a := adH ..
section
variable {P : Program} {ops : Array Oper} {Q : Exit → Act → World → Prop} {md : Region.Mode} {S : World → Prop} {oi : Oper} {rest : List Oper} {v : Value} {fuel : Nat} {listed : Array Bool} {a : Act} {w : World}
theorem eY {i : Nat} (h : ops.toList.drop i = oi :: rest) : ops[i]? = some oi := by
  have h1 : (ops.toList.drop i)[0]? = some oi := by rw [h]; rfl
  rw [List.getElem?_drop] at h1
  simpa using h1
theorem ao {l2 : Array Bool} {a2 : Act} (i : Nat) (hd : ops.toList.drop i = oi :: rest)
    (h : wpAnyH P md ops Q S fuel l2 a2 w) (hw : Region.wanted oi (yielded ops a.tmps) = true := by rfl) (hv : ∀ w, S w → (execOp a.eval oi).run P w = .ok (.value v) w := by intro w cq; (try dsimp only at cq); go_simp; try with_reducible rfl) (NT : listed.setIfInBounds i true = l2 := by (try simp only [qA, qB, qC]); rfl) (V0 : a.put oi.dst v = a2 := by (try simp only [Act.put, qA, qB, qC]); rfl) (hs : Region.noSelect ops = true := by kernel_rfl) (hf : Region.free md ops listed i = true := by kernel_rfl) (hr : (Region.ready md ops listed).contains i = true := by kernel_rfl)
    (hQ : ∀ c a w, Q (.panic c) (a.put oi.dst v) w → Q (.panic c) a w := by exact fun _ _ _ h => h) (hS : S w := by assumption) : wpAnyH P md ops Q S (fuel + 1) listed a w := fy (eY hd) hw hv (by rw [NT, V0]; exact h) hs hf hr hQ hS
theorem ij {l2 : Array Bool} {a2 : Act} (i : Nat) (hd : ops.toList.drop i = oi :: rest)
    (h : wpAnyH P md ops Q S fuel l2 a2 w) (hw : Region.wanted oi (yielded ops a.tmps) = false := by rfl) (NT : listed.setIfInBounds i true = l2 := by (try simp only [qA, qB, qC]); rfl) (V0 : a.put oi.dst undef = a2 := by (try simp only [Act.put, qA, qB, qC]); rfl) (hs : Region.noSelect ops = true := by kernel_rfl) (hf : Region.free md ops listed i = true := by kernel_rfl) (hr : (Region.ready md ops listed).contains i = true := by kernel_rfl)
    (hQ : ∀ c a w, Q (.panic c) (a.put oi.dst undef) w → Q (.panic c) a w := by exact fun _ _ _ h => h) (hS : S w := by assumption) : wpAnyH P md ops Q S (fuel + 1) listed a w := tkO (eY hd) hw (by rw [NT, V0]; exact h) hs hf hr hQ hS
theorem dz {i : Nat} {rs : List Nat} (hd : ops.toList.drop i = oi :: rest)
    (h : ∀ K' : Act → World → Prop, Shut (∀ a w, S w → (S w → wpAnyH P md ops Q S fuel (listed.setIfInBounds i true) a w) → K' a w) → if Region.wanted oi (yielded ops a.tmps) = true then Oper.wp P oi a w K' Q else K' (a.put oi.dst undef) w)
    (hs : AllReadyH P md ops Q S fuel listed a w rs) : AllReadyH P md ops Q S fuel listed a w (i :: rs) := AllReadyH.cons (eY hd) h hs
end
theorem af {p : Prop} (h : p) : Hid p := h
def bv (x : UInt8) : Value := .int .u8 (x.toNat : Int)
theorem bq (b o i : Nat) : (⟨b, o, none⟩ : Addr).add i = ⟨b, o + i, none⟩ := by unfold Addr.add; split <;> simp_all
theorem block_add (a : Addr) (i : Nat) : (a.add i).block = a.block := by unfold Addr.add; split <;> rfl
def By (w : World) (v : Value) (l : List UInt8) : Prop :=
 ∃ (p : Option Addr) (cap : Nat), v = .slice p l.length cap ∧ l.length ≤ cap ∧ cap ≤ maxLen ∧ (p = none → cap = 0) ∧ ∀ a, p = some a → ∀ (i : Nat) x, l[i]? = some x → w.cell? (a.add i) = some (bv x)
def Own (B : Nat) (w : World) (v : Value) (l : List UInt8) : Prop :=
 (v = .slice none 0 0 ∧ l = []) ∨
 ∃ g cap : Nat, v = .slice (some ⟨g, 0, none⟩) l.length cap ∧ B ≤ g ∧ l.length ≤ cap ∧ cap ≤ maxLen ∧ (∀ (i : Nat) x, l[i]? = some x → w.cell? ⟨g, i, none⟩ = some (bv x)) ∧
  (∀ i, i < cap → (w.cell? ⟨g, i, none⟩).isSome = true) ∧ ∀ i, i < cap → w.frozen? ⟨g, i, none⟩ = false
theorem By.nil (w : World) : By w (.slice none 0 0) [] := ⟨none, 0, rfl, by simp, by simp [maxLen], fun _ => rfl, fun a h => by cases h⟩
theorem By.shape {w : World} {v : Value} {l : List UInt8} (h : By w v l) : ∃ p c, v = .slice p l.length c := by
 obtain ⟨p, c, e, _⟩ := h;exact ⟨p, c, e⟩
theorem Own.nil (B : Nat) (w : World) : Own B w (.slice none 0 0) [] := .inl ⟨rfl, rfl⟩
theorem Own.bp {B : Nat} {w : World} {v : Value} {l : List UInt8} (h : Own B w v l) : By w v l := by
 rcases h with ⟨rfl, rfl⟩ | ⟨g, cap, rfl, _, hl, hm, hc, _, _⟩
 ·exact By.nil w
 ·refine ⟨some ⟨g, 0, none⟩, cap, rfl, hl, hm, (fun e => by cases e), fun a e i x hx => ?_⟩;injection e with e;subst e;rw [bq, ac2];exact hc i x hx
theorem lt_of_cell {w : World} {a : Addr} {v : Value} (h : w.cell? a = some v) : a.block < w.heap.size := World.block_lt_of_cell? w a h
theorem By.below {w w' : World} {v : Value} {l : List UInt8} (h : By w v l) (hb : Below w.heap.size w w') : By w' v l := by
 obtain ⟨p, cap, rfl, hl, hm, hn, hc⟩ := h;exact ⟨p, cap, rfl, hl, hm, hn, fun a e i x hx => (hb.cell (lt_of_cell (hc a e i x hx))).trans (hc a e i x hx)⟩
theorem By.drewN {w : World} {v : Value} {l : List UInt8} (h : By w v l) (n : Nat) : By (w.drewN n) v l := h
theorem By.alloc {w : World} {v : Value} {l : List UInt8} (h : By w v l) (o : Obj) : By (w.alloc o) v l := h.below ((acG _ _).alloc (acE _) o)
theorem Own.below {B : Nat} {w w' : World} {v : Value} {l : List UInt8} (h : Own B w v l) (hb : Below w.heap.size w w') : Own B w' v l := by
 rcases h with h | ⟨g, cap, rfl, hB, hl, hm, hc, hs, hf⟩
 ·exact .inl h
 ·by_cases h0 : cap = 0
  ·subst h0;exact .inr ⟨g, 0, rfl, hB, hl, hm, fun i x hx => by simp at hl; subst hl; simp at hx, fun i hi => by omega, fun i hi => by omega⟩
  ·have bd : g < w.heap.size := by
    obtain ⟨u, hu⟩ := adG.1 (hs 0 (by omega));exact lt_of_cell hu
   exact .inr ⟨g, cap, rfl, hB, hl, hm, fun i x hx => (hb.cell (p := ⟨g, i, none⟩) bd).trans (hc i x hx), fun i hi => by rw [hb.cell (p := ⟨g, i, none⟩) bd]; exact hs i hi, fun i hi => (hb.frozen (p := ⟨g, i, none⟩) bd).trans (hf i hi)⟩
theorem Own.mono {B B' : Nat} {w : World} {v : Value} {l : List UInt8} (h : Own B w v l) (hB : B' ≤ B) : Own B' w v l := by
 rcases h with h | ⟨g, cap, rfl, V8, r⟩
 ·exact .inl h
 ·exact .inr ⟨g, cap, rfl, by omega, r⟩
theorem Own.iX {base : Nat} {w : World} {e : TypeId} {v : Value} {n : Nat} {l : List UInt8} (h : w.ownsRow base e 1 v n (l.map bv)) : Own base w v l := by
 have hn : l.length = n := by have := h.1; simpa using this
 subst hn;rcases h.2 with ⟨rfl, h0⟩ | ⟨g, cap, cur, rfl, hB, hg, hl, hm, hs, ht⟩
 ·exact .inl ⟨rfl, acP h0⟩
 ·refine .inr ⟨g, cap, rfl, hB, hl, hm, fun i x hx => ?_, fun i hi => ?_, fun i _ => ?_⟩
  ·have := h.cells (g := g) rfl i (bv x) (by simp [hx])
   rwa [bq, ac2] at this
  ·rw [acC w g i cur e (0, 0) hg];simp [show i < cur.size by omega]
  ·exact acI w g i cur e hg
theorem Own.AE {B : Nat} {w : World} {v : Value} {l : List UInt8} (h : Lib.FreshBytes B w v l) : Own B w v l := by
 obtain ⟨g, cap, zs, rfl, hB, hl, hm, hz, hr, hb, hc, hf⟩ := h;refine .inr ⟨g, cap, rfl, hB, hl, hm, fun i x hx => ?_, fun i hi => by rw [hc i hi]; rfl, hf⟩;have hi : i < l.length := (acL.1 hx).1;rw [hc i (by omega)];have h1 : (Lib.bytesOf (zs.take l.length))[i]? = some x := by rw [hb]; exact hx
 have RP : i < zs.length := by omega
 simp only [Lib.bytesOf, adS, List.getElem?_take, hi, if_true, acF RP, ae6, adp] at h1;have := hr zs[i] (List.getElem_mem RP);simp only [List.getD, acF RP, aep, adp, bv, Value.int.injEq, true_and];rw [← h1];simp;omega
theorem By.holds {w : World} {v : Value} {l : List UInt8} (h : By w v l) : Lib.HoldsBytes w v l := by
 obtain ⟨p, cap, rfl, hl, hm, hn, hc⟩ := h;exact ⟨p, cap, rfl, fun e => acP (by have := hn e; omega), fun a e i x hx => hc a e i x hx⟩
theorem By.yD {w : World} {p : Option Addr} {n cap : Nat} {l : List UInt8} (h : By w (.slice p n cap) l) : Lib.BytesIn w p n (Lib.numsL l) ∧ (Lib.numsL l).length = n := by
 obtain ⟨p', V_, e, hl, hm, hn, hc⟩ := h;injection e with e1 e2 e3;subst e1 e2 e3;refine ⟨?_, Lib.numsL_length l⟩;rcases p with _ | a
 ·have h0 : l.length = 0 := by have := hn rfl; omega
  rw [h0];exact Lib.BytesIn.nil _ _ _
 ·exact Lib.BytesIn.of_cells (fun i hi => by
   rw [hc a rfl i l[i] (acF hi)];simp [bv, Lib.numsL, List.getD, hi])
theorem iO {w : World} {v1 v2 : Value} {l1 l2 : List UInt8} (h1 : By w v1 l1) (h2 : By w v2 l2) :
  Calls prog 20 #[v1, v2] w fun e w' => e = .returned (.bool (l1 == l2)) ∧ w = w' := by
 have RQ := h1;have Ke := h2;obtain ⟨p1, c1, rfl, _⟩ := h1;obtain ⟨p2, c2, rfl, _⟩ := h2;obtain ⟨b1, n1⟩ := RQ.yD;obtain ⟨b2, n2⟩ := Ke.yD;refine (Tryz.bytes_Equal_all p1 p2 _ c1 _ c2 _ _ w n1 n2 b1 b2).mono fun e w' ⟨he, hw⟩ => ⟨?_, hw.symm⟩
 rw [he, Lib.bytesOf_numsL, Lib.bytesOf_numsL]
theorem GH (l : List UInt8) : (Lib.numsL l).map (Value.int .u8) = l.map bv := by
 unfold Lib.numsL;rw [aeO];rfl
theorem GI {w : World} {v : Value} {l : List UInt8} (h : By w v l) (hl : l.length ≤ 140737488355328) :
  Calls prog 109 #[v] w fun e w' => ∃ v', e = .returned v' ∧ Own w.heap.size w' v' l ∧ Below w.heap.size w w' := by
 obtain ⟨p, c, rfl, wV, hm, hn, hc⟩ := h;rcases p with _ | a
 ·obtain rfl : l = [] := acP (by have := hn rfl; omega);exact (Tryz.bytes_Clone_nil _ c w).mono fun e w' ⟨he, hw⟩ => ⟨_, he, Own.nil _ _, by rw [hw]; exact acG _ _⟩
 ·refine (Tryz.bytes_Clone_at a l.length c (Lib.numsL l) w (Lib.numsL_length l) hl (fun i hi => ?_)).mono fun e w' ⟨v', he, ho, _, hb⟩ => ⟨v', he, ?_, hb⟩
  ·rw [hc a rfl i l[i] (acF hi)];simp [bv, Lib.numsL, List.getD, hi]
  ·rw [GH] at ho;exact Own.iX ho
end Go.Proofs.YtionbmlicmibgaaGreatDoor
