/- What goes over all files. -/
import Derived.Test.YtdghkmpcjjmlfaaDOps
namespace Go.Proofs.Ytdghkmpcjjmlfaa
open Go.RowKit

/-- How many bytes those files have that are not to come. -/
def done (F : Fl) (left : Lit → Bool) : Nat := ((F.filter fun p => !left (.string p.1)).map fun p => p.2.length).sum

theorem same_string (a b : List UInt8) : (Lit.string a).sameKey (.string b) = decide (a = b) := by
  by_cases h : a = b
  · subst h
    rw [WideAt.sameKey_self (isKey _)]
    simp
  · rw [Maps.sameKey_ne (fun e => h (by injection e))]
    simp [h]

theorem done_step {F : Fl} (hF : Rises F) {left : Lit → Bool} {x bs : List UInt8} (hx : get F x = some bs) (hl : left (.string x) = true) :
    done F (fun z => left z && !z.sameKey (.string x)) = done F left + bs.length := by
  induction F with
  | nil => simp [get] at hx
  | cons p r ih =>
    obtain ⟨h1, h2⟩ := List.pairwise_cons.1 hF
    unfold get at hx
    unfold done at ih ⊢
    by_cases hp : p.1 = x
    · rw [if_pos hp] at hx
      injection hx with hx
      have hr : ∀ q ∈ r, q.1 ≠ x := fun q hq e => nm_irrefl x (by have := h1 q hq; rw [e, hp] at this; exact this)
      rw [List.filter_cons_of_pos (by simp [same_string, hp]), List.filter_cons_of_neg (by rw [hp]; simp [hl])]
      have e : r.filter (fun p => !(left (.string p.1) && !(Lit.string p.1).sameKey (.string x))) = r.filter (fun p => !left (.string p.1)) := by
        apply List.filter_congr
        intro q hq
        simp [same_string, hr q hq]
      rw [e, List.map_cons, List.sum_cons, hx]
      omega
    · rw [if_neg hp] at hx
      have := ih h2 hx
      by_cases hlp : left (.string p.1) = true
      · rw [List.filter_cons_of_neg (by simp [same_string, hp, hlp]), List.filter_cons_of_neg (by simp [hlp])]
        exact this
      · rw [List.filter_cons_of_pos (by simp [same_string, hp, hlp]), List.filter_cons_of_pos (by simp [hlp]), List.map_cons, List.map_cons, List.sum_cons, List.sum_cons, this]
        omega

theorem done_all {F : Fl} {left : Lit → Bool} (h : ∀ k, left k = false) : done F left = total F := by
  unfold done total
  rw [List.filter_eq_self.2 (fun p _ => by rw [h]; rfl)]

theorem done_none {F : Fl} {left : Lit → Bool} (h : ∀ p ∈ F, left (.string p.1) = true) : done F left = 0 := by
  unfold done
  rw [List.filter_eq_nil_iff.2 (fun p hp => by rw [h p hp]; simp)]
  rfl

theorem done_le (F : Fl) (left : Lit → Bool) : done F left ≤ total F := by
  induction F with
  | nil => exact Nat.le_refl _
  | cons p r ih =>
    unfold done total at ih ⊢
    by_cases h : left (.string p.1) = true
    · rw [List.filter_cons_of_neg (by simp [h]), List.map_cons, List.sum_cons]
      omega
    · rw [List.filter_cons_of_pos (by simp [h]), List.map_cons, List.sum_cons, List.map_cons, List.sum_cons]
      omega

theorem keyS_inv {key : Value} {kl : Lit} (h : keyOf Try.prog 9 key = some kl) : ∃ x : ByteArray, key = .string x := by
  have h9 : Try.prog.underlying 9 = some .string := Try.underlying9
  cases key <;> simp [keyOf, h9, mapKey] at h
  exact ⟨_, rfl⟩

/-- What comes out of a range over files. -/
theorem FilesIs.came {w : World} {S : Nat → Prop} {b : Nat} {F : Fl} {V : List UInt8 → Value} {D : DataW Value} (h : FilesIs w S b F V D) {x : ByteArray} {v : Value} {kl : Lit} {y : DataW Value × List MemPlace}
    (hk : keyOf Try.prog 9 (.string x) = some kl) (hv : held v = some y) (hat : ∀ zd, D.atKey kl zd = y.1) : kl = .string x.data.toList ∧ x.size ≤ maxLen ∧ ∃ bs, get F x.data.toList = some bs ∧ v = V x.data.toList := by
  have h9 : Try.prog.underlying 9 = some .string := Try.underlying9
  have hkl : kl = .string x.data.toList ∧ x.size ≤ maxLen := by
    simp [keyOf, h9, mapKey] at hk
    exact ⟨hk.2.symm, hk.1⟩
  obtain ⟨rfl, hx⟩ := hkl
  have hh := Maps.has_true_of_atKey hat
  rw [h.keys] at hh
  obtain ⟨bs, hbs⟩ := Option.isSome_iff_exists.1 hh
  refine ⟨rfl, hx, bs, hbs, ?_⟩
  have e1 := (h.vals _ bs hbs).1 .nil
  rw [hat, (held_slice hv).2] at e1
  injection e1

set_option maxRecDepth 200000 in
set_option maxHeartbeats 1000000 in
theorem size_any {w : World} {S : Nat → Prop} {b : Nat} {F : Fl} {V : List UInt8 → Value} {D : DataW Value} (h : FilesIs w S b F V D) (ht : total F ≤ 140737488355328) :
    Calls Try.prog 63 #[.map (some b)] w fun e w' => e = .returned (.int .i64 (total F : Nat)) ∧ Below w.heap.size w w' := by
  have H := hide h
  have hown := h.map
  have HT := hide ht
  clear h ht
  go_enter Try.func63, Try.ntmps63
  go_wp2_with (first | (at_range; refine wpList_range_own _ rfl _ 51 rfl 9 32 strK Try.underlying51 _ b F.length D rfl hown ?_; intro w0 hrg0 hg0 hs0) | go_in)
  go_frame
  have hB0 : Below w.heap.size w w0 := ⟨hg0.os, hg0.tape, hg0.output, hg0.size, fun k hk => hg0.block k hk (by simp)⟩
  have hd0 : done F (Maps.has D) = 0 := done_none fun p hp => by
    rw [H.out.keys, get_of_mem H.out.rises (show (p.1, p.2) ∈ F from hp)]
    rfl
  have HRG := hide hrg0
  have HB0 := hide hB0
  have HD0 := hide hd0
  clear hrg0 hg0 hB0 hd0 hs0 hown
  go_loopw [3] (fun n wr => ∃ left cnt, wr.ranges Try.prog 9 held b w.heap.size F.length D left cnt ∧ n = .int .i64 (done F left : Nat) ∧ Below w.heap.size w wr) (fun _ wr => wr.rangeLeft b w.heap.size)
  case atStart => exact ⟨_, _, HRG.out, by rw [HD0.out]; rfl, HB0.out⟩
  case round =>
    obtain ⟨left, cnt, hrg, rfl, hB⟩ := hrel
    have hdl := done_le F left
    have hle : ((done F left : Nat) : Int) ≤ 140737488355328 := by have := HT.out; omega
    have HB := hide hB
    have HRG2 := hide hrg
    clear hdl hB
    go_wp2_with (first | (at_next; refine wpList_next_ranges _ rfl _ rfl 9 strK held Value.string (fun c : Option Addr × Nat × Nat => .slice c.1 c.2.1 c.2.2) (fun key kl h => keyS_inv h) (fun v y h => (held_slice h).1) b w.heap.size F.length D left cnt rfl hrg ?_ ?_) | go_in)
    · intro hc0 hl0
      have hda := done_all (F := F) hl0
      rw [hda]
      clear hrg hda
      go_wp2
      go_ret
      exact ⟨rfl, HB.out⟩
    · intro x c1 c2 c3 kl y1 ps w1 cnt1 hkey hlk hv hat hrg1 hlt hg1 hs1 hen
      obtain ⟨rfl, hx, bs, hbs, hvx⟩ := H.out.came hkey hv hat
      have hst := done_step H.out.rises hbs hlk
      have hlen : c2 = bs.length := by
        have := (by_row (H.out.vals _ bs hbs).2)
        rw [← hvx] at this
        exact this.len.1
      have hB1 := HB.out.grown hg1 HB.out.size (fun k hk => by injection hk with hk; omega)
      have hd2 := done_le F (fun z => left z && !z.sameKey (.string x.data.toList))
      have hsum : ((done F left : Nat) : Int) + (c2 : Int) ≤ 9223372036854775807 := by have := HT.out; omega
      have HS := hide hst
      have HL := hide hlen
      have HR1 := hide hrg1
      have HB1 := hide hB1
      have HLT := hide hlt
      clear hst hlen hrg1 hB1 hrg hvx hbs hkey hv hat hlk hg1 hs1 hd2 hlt
      go_wp2
      go_roundw
      case rel => exact ⟨_, _, HR1.out, by rw [HS.out, ← HL.out]; go_num, HB1.out⟩
      case measure => rw [HR1.out.left_eq, HRG2.out.left_eq]; exact HLT.out

/-- Files of which those are there that are not to come. -/
def some_ (F : Fl) (left : Lit → Bool) : Fl := F.filter fun p => !left (.string p.1)

theorem get_some (F : Fl) (left : Lit → Bool) (x : List UInt8) : get (some_ F left) x = if left (.string x) then none else get F x := by
  induction F with
  | nil => simp [some_, get]
  | cons p r ih =>
    unfold some_ at ih ⊢
    by_cases hp : left (.string p.1) = true
    · rw [List.filter_cons_of_neg (by simp [hp]), ih]
      by_cases hx : p.1 = x
      · rw [hx] at hp
        rw [if_pos hp, if_pos hp]
      · conv => rhs; unfold get
        rw [if_neg hx]
    · rw [List.filter_cons_of_pos (by simp [hp])]
      unfold get
      rw [ih]
      by_cases hx : p.1 = x
      · rw [if_pos hx, if_pos hx, ← hx, if_neg hp]
      · rw [if_neg hx, if_neg hx]

theorem Rises.some_ {F : Fl} (h : Rises F) (left : Lit → Bool) : Rises (some_ F left) := List.Pairwise.filter _ h

theorem some_step {F : Fl} (hF : Rises F) {left : Lit → Bool} {x bs : List UInt8} (hx : get F x = some bs) : put (some_ F left) x bs = some_ F (fun z => left z && !z.sameKey (.string x)) :=
  ((hF.some_ left).put x bs).ext (hF.some_ _) fun y => by
    rw [get_put, get_some, get_some, same_string]
    by_cases h : x = y
    · subst h
      simp [hx]
    · rw [if_neg h]
      have : decide (y = x) = false := decide_eq_false fun e => h e.symm
      rw [this]
      simp

theorem some_all {F : Fl} {left : Lit → Bool} (h : ∀ k, left k = false) : some_ F left = F := List.filter_eq_self.2 fun p _ => by rw [h]; rfl
theorem some_none {F : Fl} {left : Lit → Bool} (h : ∀ p ∈ F, left (.string p.1) = true) : some_ F left = [] := List.filter_eq_nil_iff.2 fun p hp => by rw [h p hp]; simp
theorem some_le (F : Fl) (left : Lit → Bool) : (some_ F left).length ≤ F.length := List.length_filter_le _ _

/-- No file. -/
theorem FilesIs.none_ {w : World} {b : Nat} {S : Nat → Prop} {V : List UInt8 → Value} (hm : w.ownsMap Try.prog 9 held b 0 (.map [])) (hS : S b) : FilesIs w S b [] V (.map []) :=
  ⟨hm, rfl, hS, List.Pairwise.nil, fun k => rfl, fun k bs h => by simp [get] at h, fun k bs i h => by simp [get] at h, fun k k' bs bs' i _ h => by simp [get] at h⟩

theorem ranges_chg {H : Type} {P : Program} {k : TypeId} {R : Value → Option (DataW H × List MemPlace)} {w w' : World} {S : Nat → Prop} {b r n : Nat} {D : DataW H} {left : Lit → Bool} {cnt : Nat} (h : w.ranges P k R b r n D left cnt) (hc : Chg w w' S) (hb : ¬ S b) (hr : ¬ S r) : w'.ranges P k R b r n D left cnt := by
  have h1 := h.owns.lt
  have h2 := h.lt
  obtain ⟨es, clock, since, seen, c0, hb', F, hs, hD, hr', rest⟩ := h
  exact ⟨es, clock, since, seen, c0, (hc.block b h1 hb).trans hb', F, hs, hD, (hc.block r h2 hr).trans hr', rest⟩

theorem run_makeMap_any (w : World) (n : Nat) : (Instr.makeMap 51 (some (.int .i64 (n : Int)))).run Try.prog w = .ok (.map (some w.heap.size)) (w.alloc (.map #[] 0)) := by
  simp [Instr.makeMap, run_underlying Try.underlying51, asInt, asIntOf]

set_option maxRecDepth 200000 in
set_option maxHeartbeats 1000000 in
theorem filesClone_any {w : World} {S : Nat → Prop} {b : Nat} {F : Fl} {V : List UInt8 → Value} {D : DataW Value} (h : FilesIs w S b F V D) (hS : ∀ i, S i → i < w.heap.size) (hn : F.length ≤ 1000000) (ht : ∀ p ∈ F, p.2.length ≤ 140737488355328) :
    Calls Try.prog 64 #[.map (some b)] w fun e w' => ∃ b', e = .returned (.map (some b')) ∧ Below w.heap.size w w' ∧ ∃ V' D', FilesIs w' (fun i => w.heap.size ≤ i ∧ i < w'.heap.size) b' F V' D' := by
  have H := hide h
  have hown := h.map
  have hlen0 := h.map.len Try.underlying51 3
  have hsz := h.size
  have HT := hide ht
  clear h ht
  go_enter Try.func64, Try.ntmps64
  have hmk := run_makeMap_any w F.length
  go_wp2_with (first | (at_range; have hown1 := hown.alloc (.map #[] 0); refine wpList_range_own _ rfl _ 51 rfl 9 32 strK Try.underlying51 _ b F.length D rfl hown1 ?_; intro w0 hrg0 hg0 hs0) | go_in)
  go_frame
  obtain ⟨B, hBdef⟩ : ∃ B, w.heap.size = B := ⟨_, rfl⟩
  have hsz1 : (w.alloc (.map #[] 0)).heap.size = B + 1 := by rw [size_alloc', hBdef]
  rw [hsz1] at hrg0 hs0
  rw [hsz1]
  have hmade := World.ownsMap_made w Try.prog 9 held
  rw [hBdef] at hmade
  have hm0 : w0.ownsMap Try.prog 9 held B 0 (.map []) := hmade.kept hg0 (by simp)
  have hB0 : Below B w w0 := ((Below.refl B w).alloc (by omega) _).trans ⟨hg0.os, hg0.tape, hg0.output, hg0.size, fun k hk => hg0.block k (by rw [hsz1]; omega) (by simp)⟩
  have hd0 : some_ F (Maps.has D) = [] := some_none fun p hp => by
    rw [H.out.keys, get_of_mem H.out.rises (show (p.1, p.2) ∈ F from hp)]
    rfl
  have hF0 : FilesIs w0 (fun i => B ≤ i ∧ i < w0.heap.size ∧ i ≠ B + 1) B (some_ F (Maps.has D)) V (.map []) := by
    rw [hd0]
    exact FilesIs.none_ hm0 ⟨Nat.le_refl _, by omega, by omega⟩
  have HRG := hide hrg0
  have HF0 := hide hF0
  have HB0 := hide hB0
  rw [hBdef]
  clear hrg0 hg0 hB0 hd0 hs0 hown hF0 hm0 hmade hsz1 hlen0 hmk
  go_loopw [] (fun wr => ∃ left cnt Vc Dc, wr.ranges Try.prog 9 held b (B + 1) F.length D left cnt ∧ FilesIs wr (fun i => B ≤ i ∧ i < wr.heap.size ∧ i ≠ B + 1) B (some_ F left) Vc Dc ∧ Below B w wr) (fun wr => wr.rangeLeft b (B + 1))
  case atStart => exact ⟨_, _, _, _, HRG.out, HF0.out, HB0.out⟩
  case round =>
    obtain ⟨left, cnt, Vc, Dc, hrg, hfc, hB⟩ := hrel
    have HFC := hide hfc
    have HB := hide hB
    have HRG2 := hide hrg
    have hSB : ∀ i, S i → i < B := fun i hi => by rw [← hBdef]; exact hS i hi
    have hsrc := H.out.chg (T := fun _ => False) (w' := wr) ⟨hB.os, hB.tape, hB.output, hB.size, fun k hk _ => hB.block k (by omega)⟩ (fun i _ h => h)
    have HSRC := hide hsrc
    have hblt : b < B := hSB b H.out.in_
    clear hfc hB hsrc
    go_wp2_with (first | (at_next; refine wpList_next_ranges _ rfl _ rfl 9 strK held Value.string (fun c : Option Addr × Nat × Nat => .slice c.1 c.2.1 c.2.2) (fun key kl h => keyS_inv h) (fun v y h => (held_slice h).1) b (B + 1) F.length D left cnt rfl hrg ?_ ?_) | go_in)
    · intro hc0 hl0
      have hfin := HFC.out
      rw [some_all hl0] at hfin
      have HFIN := hide hfin
      clear hrg hfin
      go_wp2
      go_ret
      rw [hBdef]
      exact ⟨B, rfl, HB.out, Vc, Dc, HFIN.out.mono fun i hi => ⟨hi.1, hi.2.1⟩⟩
    · intro x c1 c2 c3 kl y1 ps w1 cnt1 hkey hlk hv hat hrg1 hlt hg1 hs1 hen
      obtain ⟨rfl, hx, bs, hbs, hvx⟩ := H.out.came hkey hv hat
      have hc1 : Chg wr w1 (fun i => i = B + 1) := Chg.of_grown hg1 _ fun k hk => .inl (by injection hk with hk; exact hk.symm)
      have hs1' := HSRC.out.chg hc1 (fun i hi e => by have := hSB i hi; omega)
      have hby1 : By w1 (.slice c1 c2 c3) bs := by
        rw [hvx]
        exact by_row (hs1'.vals _ bs hbs).2
      have hfc1 := HFC.out.chg hc1 (fun i hi e => hi.2.2 e)
      have hbl := HT.out _ (get_mem hbs)
      have hsl := some_le F left
      have hput := some_step H.out.rises (left := left) hbs
      have hB1 := HB.out.grown hg1 (by rw [← hBdef]; exact HB.out.size) (fun k hk => by injection hk with hk; omega)
      have HFC1 := hide hfc1
      have HBY1 := hide hby1
      have HR1 := hide hrg1
      have HB1 := hide hB1
      have HP := hide hput
      have HLT := hide hlt
      have HX := hide hx
      have HSZ := hide hs1
      have HRL := hide hrg.lt
      clear hrg hrg1 hs1' hc1 hby1 hfc1 hput hB1 hvx hbs hkey hv hat hlk hg1 hs1 hlt hx
      go_wp2_with fail
      refine (cloneRow_any HBY1.out hbl).mono ?_
      rintro e w2 ⟨v2, rfl, hr2, hb2⟩
      obtain ⟨w3, V', D', hst, hF3, hC3⟩ := HFC1.out.set HX.out (by omega) (T := fun _ => False) (Chg.of_below hb2 _) (fun i hi => hi.elim) (row_mono hr2) (fun i hi => .inr (hr2.lt i hi).1)
      rw [HP.out] at hF3
      obtain ⟨q3, n3, c3', rfl⟩ : ∃ q n c, v2 = .slice q n c := (by_row (row_mono hr2)).sl
      have hlt1 : B + 1 < w1.heap.size := by have := HSZ.out; have := HRL.out; omega
      have HF3 := hide (hF3.mono (S' := fun i => B ≤ i ∧ i < w3.heap.size ∧ i ≠ B + 1) fun i hi => by
        have := hC3.size
        have := HSZ.out
        rcases hi with hi | hi
        · exact ⟨hi.1, by omega, hi.2.2⟩
        · exact ⟨by omega, hi.2, by omega⟩)
      have HR3 := hide (ranges_chg HR1.out hC3 (fun h => by have := h.1; omega) (fun h => h.2.2 rfl))
      have HB3 := hide (show Below B w w3 from ⟨hC3.os.trans HB1.out.os, hC3.tape.trans HB1.out.tape, hC3.output.trans HB1.out.output, Nat.le_trans HB1.out.size hC3.size, fun k hk => (hC3.block k (by omega) (fun h => by have := h.1; omega)).trans (HB1.out.block k hk)⟩)
      clear hr2 hb2 hF3 hC3
      go_wp2
      go_roundw
      case rel => exact ⟨_, _, _, _, HR3.out, HF3.out, HB3.out⟩
      case measure => rw [HR3.out.left_eq, HRG2.out.left_eq]; exact HLT.out
end Go.Proofs.Ytdghkmpcjjmlfaa
