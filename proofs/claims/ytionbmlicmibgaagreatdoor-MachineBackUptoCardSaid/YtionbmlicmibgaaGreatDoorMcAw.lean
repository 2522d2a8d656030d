import Derived.Test.YtionbmlicmibgaaGreatDoorMcBeg
import Derived.Test.YtionbmlicmibgaaGreatDoorMcRps
namespace Go.Proofs.YtionbmlicmibgaaGreatDoor
set_option linter.unusedVariables false
set_option linter.unusedSimpArgs false
open Go.RowKit
def awS (b : Nat) : List (Nat × Nat × Value) := [(b, 0, .int .i64 1), (b, 1, .int .i64 2), (b, 2, .int .i64 0), (b, 3, .int .i64 0), (b, 4, .int .i64 7), (b, 5, .string ⟨#[97]⟩)]
def awV (b2 b3 b4 : Nat) : List Value := [.int .i64 1, .int .i64 0, .int .i64 0, .int .i64 0, .slice none 0 0, .slice none 0 0,
 .int .i64 2, .int .i64 1, .int .i64 1, .int .i64 0, .slice (some ⟨b2, 0, none⟩) 1 1, .slice none 0 0,
 .int .i64 2, .int .i64 1, .int .i64 1, .int .i64 0, .slice (some ⟨b3, 0, none⟩) 1 1, .slice none 0 0,
 .int .i64 3, .int .i64 0, .int .i64 0, .int .i64 3, .slice none 0 0, .slice none 0 0,
 .int .i64 2, .int .i64 1, .int .i64 2, .int .i64 0, .slice (some ⟨b4, 0, none⟩) 1 1, .slice none 0 0]
structure AwF (b2 b3 b4 bC : Nat) (W : World) : Prop where
 s2 : ∀ x ∈ awS b2, W.cell? ⟨x.1, x.2.1, none⟩ = some x.2.2
 s3 : ∀ x ∈ awS b3, W.cell? ⟨x.1, x.2.1, none⟩ = some x.2.2
 s4 : ∀ x ∈ awS b4, W.cell? ⟨x.1, x.2.1, none⟩ = some x.2.2
 c : ∀ i u, (awV b2 b3 b4)[i]? = some u → W.cell? ⟨bC, i, none⟩ = some u
theorem awS_at {b : Nat} {x : Nat × Nat × Value} (h : x ∈ awS b) : x.1 = b := by
 simp [awS] at h
 rcases h with rfl | rfl | rfl | rfl | rfl | rfl <;> rfl
theorem AwF.chg {b2 b3 b4 bC : Nat} {W W' : World} {S : Nat → Prop} (h : AwF b2 b3 b4 bC W) (hc : Chg W W' S) (h2 : ¬ S b2) (h3 : ¬ S b3) (h4 : ¬ S b4) (hC : ¬ S bC) : AwF b2 b3 b4 bC W' :=
 ⟨fun x hx => hc.cell (h.s2 x hx) (by rw [awS_at hx]; exact h2), fun x hx => hc.cell (h.s3 x hx) (by rw [awS_at hx]; exact h3), fun x hx => hc.cell (h.s4 x hx) (by rw [awS_at hx]; exact h4), fun i u hu => hc.cell (h.c i u hu) hC⟩
theorem AwF.below {b2 b3 b4 bC : Nat} {W W' : World} (h : AwF b2 b3 b4 bC W) (hb : Below W.heap.size W W') : AwF b2 b3 b4 bC W' := h.chg (Chg.of_below hb fun _ => False) (fun e => e) (fun e => e) (fun e => e) (fun e => e)
theorem awS_sp {W : World} {b : Nat} (h : ∀ x ∈ awS b, W.cell? ⟨x.1, x.2.1, none⟩ = some x.2.2) : Sps W (.slice (some ⟨b, 0, none⟩) 1 1) [oneM] := by
 refine ⟨_, 1, rfl, Nat.le_refl _, by simp [maxLen], (fun e => by cases e), fun _ => ⟨b, 0, rfl, fun i y hi => ?_⟩⟩
 match i, hi with
 | 0, hi =>
  simp at hi
  subst hi
  intro k u hk
  match k, hk with
  | 0, hk => exact (h (b, 0, .int .i64 1) (by simp [awS])).trans hk
  | 1, hk => exact (h (b, 1, .int .i64 2) (by simp [awS])).trans hk
  | 2, hk => exact (h (b, 2, .int .i64 0) (by simp [awS])).trans hk
  | 3, hk => exact (h (b, 3, .int .i64 0) (by simp [awS])).trans hk
  | 4, hk => exact (h (b, 4, .int .i64 7) (by simp [awS])).trans hk
  | 5, hk => exact (h (b, 5, .string ⟨#[97]⟩) (by simp [awS])).trans hk
  | k + 6, hk => simp [spC] at hk
 | i + 1, hi => simp at hi
theorem AwF.cm {b2 b3 b4 bC : Nat} {W : World} (h : AwF b2 b3 b4 bC W) (j : Nat) (cm : Cm) (hj : awC[j]? = some cm) : ∃ p n d, CmAt W (.slice p n d) (.slice none 0 0) cm ∧
  W.cell? ⟨bC, j * 6, none⟩ = some (.int .i64 cm.k) ∧ W.cell? ⟨bC, j * 6 + 1, none⟩ = some (.int .i64 cm.se) ∧ W.cell? ⟨bC, j * 6 + 2, none⟩ = some (.int .i64 cm.sq) ∧ W.cell? ⟨bC, j * 6 + 3, none⟩ = some (.int .i64 cm.a) ∧ W.cell? ⟨bC, j * 6 + 4, none⟩ = some (.slice p n d) ∧ W.cell? ⟨bC, j * 6 + 5, none⟩ = some (.slice none 0 0) := by
 have hnm : ∀ x ∈ [oneM], x.n.size ≤ 1100000 := by
  intro x hx
  simp at hx
  subst hx
  decide
 match j, hj with
 | 0, hj => simp [awC] at hj; subst hj; exact ⟨none, 0, 0, ⟨Sps.nil W, Ns.nil W, by simp⟩, h.c 0 _ rfl, h.c 1 _ rfl, h.c 2 _ rfl, h.c 3 _ rfl, h.c 4 _ rfl, h.c 5 _ rfl⟩
 | 1, hj => simp [awC] at hj; subst hj; exact ⟨_, 1, 1, ⟨awS_sp h.s2, Ns.nil W, hnm⟩, h.c 6 _ rfl, h.c 7 _ rfl, h.c 8 _ rfl, h.c 9 _ rfl, h.c 10 _ rfl, h.c 11 _ rfl⟩
 | 2, hj => simp [awC] at hj; subst hj; exact ⟨_, 1, 1, ⟨awS_sp h.s3, Ns.nil W, hnm⟩, h.c 12 _ rfl, h.c 13 _ rfl, h.c 14 _ rfl, h.c 15 _ rfl, h.c 16 _ rfl, h.c 17 _ rfl⟩
 | 3, hj => simp [awC] at hj; subst hj; exact ⟨none, 0, 0, ⟨Sps.nil W, Ns.nil W, by simp⟩, h.c 18 _ rfl, h.c 19 _ rfl, h.c 20 _ rfl, h.c 21 _ rfl, h.c 22 _ rfl, h.c 23 _ rfl⟩
 | 4, hj => simp [awC] at hj; subst hj; exact ⟨_, 1, 1, ⟨awS_sp h.s4, Ns.nil W, hnm⟩, h.c 24 _ rfl, h.c 25 _ rfl, h.c 26 _ rfl, h.c 27 _ rfl, h.c 28 _ rfl, h.c 29 _ rfl⟩
 | j + 5, hj => simp [awC] at hj
theorem McIs.notCells {W : World} {P : Pm} {m : Mp} (hm : McIs W P m) {g : Nat} {cur : Array Value} {ty : TypeId} {fz : Nat × Nat} (hh : W.heap[g]? = some (.cells cur ty fz)) (hty : ty ≠ 131) : ¬ McC P g := by
 rintro (e | e | e)
 ·have h1 := hm.row
  unfold RowM at h1
  rw [← e, hh] at h1
  injection h1 with h1
  injection h1 with _ h1
  exact hty h1
 ·obtain ⟨D, hD⟩ := hm.tb.map
  obtain ⟨es, clock, h1, _⟩ := hD.map
  rw [e, h1] at hh
  cases hh
 ·rcases e with e | ⟨x, hx, e⟩
  ·obtain ⟨D, hD⟩ := hm.so.map
   obtain ⟨es, clock, h1, _⟩ := hD.map
   rw [e, h1] at hh
   cases hh
  ·obtain ⟨D, hD⟩ := (hm.so.fo x hx).bag
   obtain ⟨es, clock, h1, _⟩ := hD.map
   rw [e, h1] at hh
   cases hh
theorem OwnRp.notC {B : Nat} {W : World} {P : Pm} {m : Mp} {v : Value} {l : List Rp} (h : OwnRp B W v l) (hm : McIs W P m) : ∀ k, v.ownBlock = some k → ¬ McC P k := by
 intro k hk
 obtain ⟨_, ⟨rfl, _⟩ | ⟨g, cap, cur, rfl, _, hh, hc, _, hs, ht⟩⟩ := h
 ·cases hk
 ·have e : g = k := by simpa [Value.ownBlock] using hk
  subst e
  exact hm.notCells hh (by decide)
theorem OwnRp.chg {B : Nat} {W W' : World} {S : Nat → Prop} {v : Value} {l : List Rp} (h : OwnRp B W v l) (hc : Chg W W' S) (hne : ∀ k, v.ownBlock = some k → ¬ S k) : OwnRp B W' v l := by
 unfold OwnRp at *
 obtain ⟨h0, h1 | ⟨g, cap, cur, rfl, hB, hh, r⟩⟩ := h
 ·exact ⟨h0, .inl h1⟩
 ·exact ⟨h0, .inr ⟨g, cap, cur, rfl, hB, (hc.block g (Array.getElem?_eq_some_iff.1 hh).1 (hne g rfl)).trans hh, r⟩⟩
theorem Cm.bytes_len {c : Cm} (h : c.ok = true) : c.bytes.length ≤ 2000 := by
 have d9 : ∀ z : Int, 0 ≤ z → z ≤ 1099511627777 → (digits z.toNat).length ≤ 9 := fun z h0 h1 => digits_length z.toNat (by omega)
 have n1 : ∀ z : Int, 0 ≤ z → z ≤ 1099511627777 → (nmB [z]).length ≤ 9 := fun z h0 h1 => by
  have := nmB_len [z] (by simp; omega)
  simpa using this
 unfold Cm.bytes
 rcases (Cm.ok_iff _).1 h with ⟨h1, _⟩ | ⟨h1, _, h2, h3, h4⟩ | ⟨h1, _, h2⟩ | ⟨h1, _, h2⟩ | ⟨h1, _, h2⟩
 ·have := d9 c.k (by omega) (by omega)
  rw [if_neg (by omega), if_neg (by omega), if_neg (by omega), if_neg (by omega), List.append_nil]
  omega
 ·have h0 := d9 c.k (by omega) (by omega)
  have e2 := btw_iff.1 h2
  have e3 := btw_iff.1 h3
  have h5 := nmB_len [c.se, c.sq] (by simp; omega)
  have h6 := spsOk_len h4
  have h7 := digits_length (encL c.sp).length (by omega)
  rw [if_pos h1]
  unfold txB
  simp only [List.length_append, List.length_cons, List.length_nil] at *
  omega
 ·have h0 := d9 c.k (by omega) (by omega)
  have e2 := btw_iff.1 h2
  have h5 := n1 c.a e2.1 (by omega)
  rw [if_neg (by omega), if_pos h1, List.length_append]
  omega
 ·have h0 := d9 c.k (by omega) (by omega)
  have e2 := btw_iff.1 h2
  have h5 := n1 c.a e2.1 (by omega)
  rw [if_neg (by omega), if_neg (by omega), if_pos h1, List.length_append]
  omega
 ·have h0 := d9 c.k (by omega) (by omega)
  have e2 := okR_len h2
  have h5 := n1 (c.vo.length : Int) (by omega) (by omega)
  have h6 := nmB_len c.vo (fun n hn => by have := e2.2 n hn; omega)
  rw [if_neg (by omega), if_neg (by omega), if_neg (by omega), if_pos h1, List.length_append, List.length_append]
  omega
def AwN (b2 b3 b4 bC gi : Nat) : Prop := b2 ≠ gi ∧ b3 ≠ gi ∧ b4 ≠ gi ∧ bC ≠ gi
theorem AwF.apply {b2 b3 b4 bC : Nat} {W W' : World} {P : Pm} {m : Mp} (h : AwF b2 b3 b4 bC W) (hm : McIs W P m) (hc : Chg W W' (McC P)) (hn : AwN b2 b3 b4 bC P.gi) : AwF b2 b3 b4 bC W' :=
 h.chg hc (hm.notC (h.s2 (b2, 0, .int .i64 1) (by simp [awS])) hn.1) (hm.notC (h.s3 (b3, 0, .int .i64 1) (by simp [awS])) hn.2.1) (hm.notC (h.s4 (b4, 0, .int .i64 1) (by simp [awS])) hn.2.2.1) (hm.notC (h.c 0 _ rfl) hn.2.2.2)
theorem awF_make {w2 w3 w4 X : World} (h3 : Below (w2.alloc (.cells #[.int .i64 1, .int .i64 2, .int .i64 0, .int .i64 0, .int .i64 7, .string ⟨#[97]⟩] 30)).heap.size (w2.alloc (.cells #[.int .i64 1, .int .i64 2, .int .i64 0, .int .i64 0, .int .i64 7, .string ⟨#[97]⟩] 30)) w3) (h4 : Below (w3.alloc (.cells #[.int .i64 1, .int .i64 2, .int .i64 0, .int .i64 0, .int .i64 7, .string ⟨#[97]⟩] 30)).heap.size (w3.alloc (.cells #[.int .i64 1, .int .i64 2, .int .i64 0, .int .i64 0, .int .i64 7, .string ⟨#[97]⟩] 30)) w4) (hX : (w4.alloc (.cells #[.int .i64 1, .int .i64 2, .int .i64 0, .int .i64 0, .int .i64 7, .string ⟨#[97]⟩] 30)).alloc (.cells (awV w2.heap.size w3.heap.size w4.heap.size).toArray 25) = X) : AwF w2.heap.size w3.heap.size w4.heap.size (w4.heap.size + 1) X ∧ Below w2.heap.size w2 X ∧ w2.heap.size < w3.heap.size ∧ w3.heap.size < w4.heap.size := by
 have hs : ∀ V : World, ∀ x ∈ awS V.heap.size, (V.alloc (.cells #[.int .i64 1, .int .i64 2, .int .i64 0, .int .i64 0, .int .i64 7, .string ⟨#[97]⟩] 30)).cell? ⟨x.1, x.2.1, none⟩ = some x.2.2 := by
  intro V x hx
  simp [awS] at hx
  rcases hx with rfl | rfl | rfl | rfl | rfl | rfl <;> (rw [World.cell?_alloc_new]; rfl)
 have b2 := (Below.refl w2.heap.size w2).alloc (Nat.le_refl _) (.cells #[.int .i64 1, .int .i64 2, .int .i64 0, .int .i64 0, .int .i64 7, .string ⟨#[97]⟩] 30)
 have b3 := (Below.refl w3.heap.size w3).alloc (Nat.le_refl _) (.cells #[.int .i64 1, .int .i64 2, .int .i64 0, .int .i64 0, .int .i64 7, .string ⟨#[97]⟩] 30)
 have b4 := (Below.refl w4.heap.size w4).alloc (Nat.le_refl _) (.cells #[.int .i64 1, .int .i64 2, .int .i64 0, .int .i64 0, .int .i64 7, .string ⟨#[97]⟩] 30)
 have z2 : (w2.alloc (.cells #[.int .i64 1, .int .i64 2, .int .i64 0, .int .i64 0, .int .i64 7, .string ⟨#[97]⟩] 30)).heap.size = w2.heap.size + 1 := by simp
 have z3 : (w3.alloc (.cells #[.int .i64 1, .int .i64 2, .int .i64 0, .int .i64 0, .int .i64 7, .string ⟨#[97]⟩] 30)).heap.size = w3.heap.size + 1 := by simp
 have z4 : (w4.alloc (.cells #[.int .i64 1, .int .i64 2, .int .i64 0, .int .i64 0, .int .i64 7, .string ⟨#[97]⟩] 30)).heap.size = w4.heap.size + 1 := by simp
 have s2 := hs w2
 have s3 := hs w3
 have s4 := hs w4
 generalize (w2.alloc (.cells #[.int .i64 1, .int .i64 2, .int .i64 0, .int .i64 0, .int .i64 7, .string ⟨#[97]⟩] 30)) = V2 at *
 generalize (w3.alloc (.cells #[.int .i64 1, .int .i64 2, .int .i64 0, .int .i64 0, .int .i64 7, .string ⟨#[97]⟩] 30)) = V3 at *
 generalize (w4.alloc (.cells #[.int .i64 1, .int .i64 2, .int .i64 0, .int .i64 0, .int .i64 7, .string ⟨#[97]⟩] 30)) = V4 at *
 have bX : Below V4.heap.size V4 X := by rw [← hX]; exact (Below.refl _ _).alloc (Nat.le_refl _) _
 have cX : ∀ i u, (awV w2.heap.size w3.heap.size w4.heap.size)[i]? = some u → X.cell? ⟨w4.heap.size + 1, i, none⟩ = some u := fun i u hu => by rw [← hX, ← z4, World.cell?_alloc_new]; simpa using hu
 have e3 := h3.size
 have e4 := h4.size
 have b34 : Below V3.heap.size V3 X := h4.trans ((b4.mono e4).trans (bX.mono (by omega)))
 have b23 : Below V2.heap.size V2 X := h3.trans ((b3.mono e3).trans (b34.mono (by omega)))
 have kp : ∀ {V : World} (b : Nat), Below V.heap.size V X → (∀ x ∈ awS b, V.cell? ⟨x.1, x.2.1, none⟩ = some x.2.2) → ∀ x ∈ awS b, X.cell? ⟨x.1, x.2.1, none⟩ = some x.2.2 := fun b hb h x hx => (hb.cell (lt_of_cell (h x hx))).trans (h x hx)
 exact ⟨⟨kp _ b23 s2, kp _ b34 s3, kp _ bX s4, cX⟩, b2.trans (b23.mono (by omega)), by omega, by omega⟩
theorem mtraces_one {w : World} {gm : Nat} {P : Pm} {m : Mp} (h : MkIs w gm P m) (h1 : m.S.length = 1) : Calls Tryz.prog 42 #[.pointer (some ⟨gm, 0, none⟩)] w fun e w' => ∃ p c, e = .returned (.slice p 1 c) ∧ Below w.heap.size w w' := (mtraces_tell h).mono fun e w' ⟨v, he, ho, hb⟩ => by
 have hR : P.R.length = 1 := by rw [← List.length_map (f := Tr.pl), h.is.pl]; exact h1
 rw [hR] at ho
 obtain ⟨_, ⟨_, h0⟩ | ⟨g, cap, cur, rfl, _⟩⟩ := ho
 ·omega
 ·exact ⟨_, _, he, hb⟩
theorem MkIs.chgS {w w' : World} {gm : Nat} {P : Pm} {m : Mp} {S : Nat → Prop} (h : MkIs w gm P m) (hc : Chg w w' S) (hS : ∀ k, McS P k → ¬ S k) (h0 : ¬ S 0) (hg : ¬ S gm) : MkIs w' gm P m := ⟨(hc.block gm h.lt hg).trans h.row, h.is.chg hc hS h0, h.ne, h.nz⟩
set_option maxRecDepth 200000 in
set_option maxHeartbeats 8000000 in
theorem mawake_any {w : World} (hE : ErrT w) : Calls Tryz.prog 15 #[] w fun e w' => e = .returned (.bool true) ∧ Below w.heap.size w w' := by
 have HE := hide hE
 have HBG := hide (mbegun_any hE)
 clear hE
 go_enter Tryz.func15, Tryz.ntmps15
 go_wp2_with fail
 refine HBG.out.mono ?_
 rintro e w1 ⟨gm, P, rfl, hm, hn, hg, hb1⟩
 have H1 := hide (And.intro hm (And.intro hn (And.intro hg hb1)))
 clear hm hn hg hb1 HBG
 go_wp2_with fail
 refine (mone_any _).mono ?_
 rintro e w2 ⟨rfl, hb2⟩
 have HB2 := hide hb2
 clear hb2
 go_wp2_with fail
 refine (mone_any _).mono ?_
 rintro e w3 ⟨rfl, hb3⟩
 have HB3 := hide hb3
 clear hb3
 go_wp2_with fail
 refine (mone_any _).mono ?_
 rintro e w4 ⟨rfl, hb4⟩
 have HB4 := hide hb4
 clear hb4
 go_upto_region 6 with fail
 obtain ⟨X, hX⟩ : ∃ X, (w4.alloc (.cells #[.int .i64 1, .int .i64 2, .int .i64 0, .int .i64 0, .int .i64 7, .string ⟨#[97]⟩] 30)).alloc (.cells (awV w2.heap.size w3.heap.size w4.heap.size).toArray 25) = X := ⟨_, rfl⟩
 obtain ⟨hF, hbX, hlt3, hlt4⟩ := awF_make HB3.out HB4.out hX
 unfold awV at hX
 rw [hX]
 clear hX
 have HFX := hide hF
 have HBX : Hid (Below w1.heap.size w1 X) := hide (HB2.out.trans (hbX.mono HB2.out.size))
 have HWX : Hid (Below w.heap.size w X) := hide (H1.out.2.2.2.trans (HBX.out.mono H1.out.2.2.2.size))
 have HNX : Hid (AwN w2.heap.size w3.heap.size w4.heap.size (w4.heap.size + 1) P.gi) := hide (by
  have h1 := H1.out.1.is.row.lt
  have h2 := HB2.out.size
  refine ⟨?_, ?_, ?_, ?_⟩ <;> omega)
 obtain ⟨b2, e2⟩ : ∃ b, w2.heap.size = b := ⟨_, rfl⟩
 obtain ⟨b3, e3⟩ : ∃ b, w3.heap.size = b := ⟨_, rfl⟩
 obtain ⟨b4, e4⟩ : ∃ b, w4.heap.size = b := ⟨_, rfl⟩
 obtain ⟨bC, eC⟩ : ∃ b, b4 + 1 = b := ⟨_, rfl⟩
 rw [e2, e3, e4, eC] at HFX HNX
 rw [e2, e3, e4, eC]
 clear hF hbX hlt3 hlt4 e2 e3 e4 eC HB2 HB3 HB4
 go_loopw [3, 29] (fun v i wr => ∃ k : Nat, k ≤ 5 ∧ i = .int .i64 k ∧ (∃ p n c, v = .slice p n c) ∧ Hid (OwnRp X.heap.size wr v (awR.take k) ∧ AwF b2 b3 b4 bC wr ∧ Below w.heap.size w wr ∧ (∃ P', MkIs wr gm P' (awM k) ∧ P'.gi = P.gi ∧ (∀ j, McS P' j → w.heap.size ≤ j) ∧ ∀ j, v.ownBlock = some j → ¬ McS P' j) ∧ X.heap.size ≤ wr.heap.size)) (fun _ i _ => 5 - (intOf i).toNat)
 case atStart => exact ⟨0, by omega, rfl, ⟨_, _, _, rfl⟩, hide ⟨World.ownsRow_nil _ _ _ _, HFX.out, HWX.out, ⟨P, H1.out.1.below HBX.out, rfl, H1.out.2.1, fun j e => by cases e⟩, Nat.le_refl _⟩⟩
 case round =>
  obtain ⟨k, hk, rfl, ⟨pv, nv, cv, rfl⟩, HR⟩ := hrel
  by_cases hlt : k < 5
  ·obtain ⟨cm, hcm⟩ : ∃ c, awC[k]? = some c := ⟨_, List.getElem?_eq_getElem (show k < awC.length from hlt)⟩
   obtain ⟨rp, hrp⟩ : ∃ r, awR[k]? = some r := ⟨_, List.getElem?_eq_getElem (show k < awR.length from hlt)⟩
   have HST := hide (awStep k cm rp hcm hrp)
   have HCO := hide (awC_ok k cm hcm)
   have HTK : Hid (awR.take (k + 1) = awR.take k ++ [rp]) := hide (by rw [List.take_add_one, hrp]; rfl)
   obtain ⟨p, n, d, hca, c0, c1, c2, c3, c4, c5⟩ := HR.out.2.1.cm k cm hcm
   have HCA := hide hca
   clear hcm hrp hca
   obtain ⟨oo, hoo⟩ : ∃ oo, k * 6 = oo := ⟨_, rfl⟩
   rw [hoo] at c0 c1 c2 c3 c4 c5
   have HMP := hide (mput_any (HCA.out.below ((Below.refl wr.heap.size wr).alloc (Nat.le_refl _) (.cells #[.int .i64 cm.k, .int .i64 cm.se, .int .i64 cm.sq, .int .i64 cm.a, .slice p n d, .slice none 0 0] 25))))
   have HBA : Hid (Below wr.heap.size wr (wr.alloc (.cells #[.int .i64 cm.k, .int .i64 cm.se, .int .i64 cm.sq, .int .i64 cm.a, .slice p n d, .slice none 0 0] 25))) := hide ((Below.refl wr.heap.size wr).alloc (Nat.le_refl _) _)
   unfold cmV at HMP
   have hki : IntKind.i64.wrap ((k : Int) + 1) = (k : Int) + 1 := IntWalk.i64_in _ (by omega)
   go_wp2_with fail
   refine HMP.out.mono ?_
   intro e w5 hp5
   rcases hp5 with ⟨_, pb, nb, cb, rfl, hob, hb5⟩ | ⟨hno, _⟩
   case inr => rw [HCO.out] at hno; cases hno
   have HB5 : Hid (Below wr.heap.size wr w5) := hide (HBA.out.trans (hb5.mono HBA.out.size))
   have HBY := hide hob.by_
   clear hob hb5 c0 c1 c2 c3 c4 c5 HMP
   go_wp2_with fail
   obtain ⟨P4, hm4, hg4, hn4, hv4⟩ := HR.out.2.2.2.1
   refine (mapply_any (hm4.below HB5.out) (ix := (k : Int) + 1) (tm := 1) HBY.out (by have := Cm.bytes_len HCO.out; omega)).mono ?_
   intro e w6 hp6
   rw [HST.out] at hp6
   obtain ⟨rfl, P6, hto, hmk⟩ := hp6
   have HF6 : Hid (AwF b2 b3 b4 bC w6) := hide ((HR.out.2.1.below HB5.out).apply (hm4.below HB5.out).is hto.chg (by rw [hg4]; exact HNX.out))
   have HO6 : Hid (OwnRp X.heap.size w6 (.slice pv nv cv) (awR.take k)) := hide ((HR.out.1.below HB5.out).chg hto.chg ((HR.out.1.below HB5.out).notC (hm4.below HB5.out).is))
   have HB6 : Hid (Below w.heap.size w w6) := hide (Chg.to_below (HR.out.2.2.1.trans (HB5.out.mono HR.out.2.2.1.size)) hto.chg (fun j hj => hn4 j hj.sub))
   have HM6 : Hid (MkIs w6 gm P6 (awM (k + 1)) ∧ P6.gi = P.gi ∧ (∀ j, McS P6 j → w.heap.size ≤ j) ∧ ∀ j, (Value.slice pv nv cv).ownBlock = some j → ¬ McS P6 j) := hide ⟨hmk, hto.gi.trans hg4, fun j hj => by
    rcases hto.new j hj with h1 | h1
    ·exact hn4 j h1
    ·have := HR.out.2.2.1.size; have := HB5.out.size; omega, fun j hj h6 => by
    rcases hto.new j h6 with h1 | h1
    ·exact hv4 j hj h1
    ·have := (HR.out.1.lt j hj).2; have := HB5.out.size; omega⟩
   have HX6 : Hid (X.heap.size ≤ w6.heap.size ∧ gm < X.heap.size ∧ b2 < X.heap.size ∧ b3 < X.heap.size ∧ b4 < X.heap.size ∧ bC < X.heap.size ∧ 0 < X.heap.size) := hide ⟨Nat.le_trans HR.out.2.2.2.2 (Nat.le_trans HB5.out.size hto.chg.size), by have := H1.out.1.lt; have := HBX.out.size; omega, lt_of_cell (HFX.out.s2 (b2, 0, .int .i64 1) (by simp [awS])), lt_of_cell (HFX.out.s3 (b3, 0, .int .i64 1) (by simp [awS])), lt_of_cell (HFX.out.s4 (b4, 0, .int .i64 1) (by simp [awS])), lt_of_cell (HFX.out.c 0 _ rfl), by have := H1.out.1.lt; have := HBX.out.size; omega⟩
   clear hm4 hg4 hn4 hv4 hto hmk HBY HCA HST
   unfold rpV
   have hbA := (Below.refl w6.heap.size w6).alloc (Nat.le_refl _) (.cells #[.int .i64 rp.er, .int .i64 rp.rs, .int .i64 rp.gn, .int .i64 rp.ad, .int .i64 rp.sa, .int .i64 rp.ot, .int .i64 rp.cy, .int .i64 rp.fu] 66)
   have HBA6 := hide hbA
   have HOA := hide (HO6.out.below hbA)
   clear hbA
   go_upto_region 12 with fail
   go_wp2_with (at_builtin; go_must (refine wpList_pushRp (v := .slice pv nv cv) rfl _ _ rfl rfl rp rfl rfl (by simp) HOA.out (by have := HX6.out.1; have := HBA6.out.size; omega) (by simp; omega) ?_); intro v7 w7 ho7 hb7 hg7 hv7; obtain ⟨p7, n7, c7, rfl⟩ := ho7.sts.sl; have H7 := hide (And.intro ho7 (And.intro hg7 hv7)); clear ho7 hb7 hg7 hv7)
   have HC7 : Hid (Chg w6 w7 fun j => (Value.slice pv nv cv).ownBlock = some j) := hide ((Chg.of_below HBA6.out _).trans (Chg.of_grown H7.out.2.1 _ (fun j e => .inl e)) (fun j e => .inl e))
   have HF7 : Hid (AwF b2 b3 b4 bC w7) := hide (HF6.out.chg HC7.out (fun e => by have := (HO6.out.lt _ e).1; have := HX6.out; omega) (fun e => by have := (HO6.out.lt _ e).1; have := HX6.out; omega) (fun e => by have := (HO6.out.lt _ e).1; have := HX6.out; omega) (fun e => by have := (HO6.out.lt _ e).1; have := HX6.out; omega))
   have HM7 : Hid (MkIs w7 gm P6 (awM (k + 1))) := hide (HM6.out.1.chgS HC7.out (fun j hj e => HM6.out.2.2.2 j e hj) (fun e => by have := (HO6.out.lt _ e).1; have := HX6.out; omega) (fun e => by have := (HO6.out.lt _ e).1; have := HX6.out; omega))
   have HB7 : Hid (Below w.heap.size w w7) := hide (Chg.to_below HB6.out HC7.out (fun j e => by have := (HO6.out.lt j e).1; have := HWX.out.size; omega))
   have HV7 : Hid (∀ j, (Value.slice p7 n7 c7).ownBlock = some j → ¬ McS P6 j) := hide (fun j hj => by
    rcases H7.out.2.2 with e | e
    ·rw [e] at hj; exact HM6.out.2.2.2 j hj
    ·rw [e] at hj
     injection hj with hj
     intro h6
     have := HM6.out.1.is.lt j h6
     have := HBA6.out.size
     omega)
   go_roundw
   case rel => exact ⟨k + 1, by omega, by go_num, ⟨_, _, _, rfl⟩, hide ⟨by rw [HTK.out]; exact H7.out.1, HF7.out, HB7.out, ⟨P6, HM7.out, HM6.out.2.1, HM6.out.2.2.1, HV7.out⟩, by have := HX6.out.1; have := HC7.out.size; omega⟩⟩
   case measure => simp [intOf]; omega
  ·obtain rfl : k = 5 := by omega
   obtain ⟨P5, hm5, hg5, hn5, hv5⟩ := HR.out.2.2.2.1
   obtain ⟨hnv, g, rfl, hcl⟩ := HR.out.1.cells (by decide)
   obtain rfl : nv = 5 := hnv
   have HBR : Hid (Below w.heap.size w wr) := hide HR.out.2.2.1
   have HMT := hide (fun W (hW : Below wr.heap.size wr W) => mtraces_one (hm5.below hW) rfl)
   have kc : ∀ (U : World) (i : Nat) (u : Value), ((awR.take 5).flatMap rpC)[i]? = some u → Below wr.heap.size wr U → U.cell? ⟨g, i, none⟩ = some u := fun U i u hi hU => (hU.cell (lt_of_cell (hcl i u hi))).trans (hcl i u hi)
   have HKP : Hid (∀ U, Below wr.heap.size wr U → U.cell? ⟨g, 1, none⟩ = some (.int .i64 1) ∧ U.cell? ⟨g, 8, none⟩ = some (.int .i64 0) ∧ U.cell? ⟨g, 9, none⟩ = some (.int .i64 0) ∧ U.cell? ⟨g, 10, none⟩ = some (.int .i64 0) ∧ U.cell? ⟨g, 11, none⟩ = some (.int .i64 1) ∧ U.cell? ⟨g, 12, none⟩ = some (.int .i64 0) ∧ U.cell? ⟨g, 13, none⟩ = some (.int .i64 0) ∧ U.cell? ⟨g, 14, none⟩ = some (.int .i64 0) ∧ U.cell? ⟨g, 15, none⟩ = some (.int .i64 0) ∧ U.cell? ⟨g, 16, none⟩ = some (.int .i64 0) ∧ U.cell? ⟨g, 17, none⟩ = some (.int .i64 0) ∧ U.cell? ⟨g, 18, none⟩ = some (.int .i64 0) ∧ U.cell? ⟨g, 19, none⟩ = some (.int .i64 1) ∧ U.cell? ⟨g, 20, none⟩ = some (.int .i64 0) ∧ U.cell? ⟨g, 21, none⟩ = some (.int .i64 0) ∧ U.cell? ⟨g, 22, none⟩ = some (.int .i64 0) ∧ U.cell? ⟨g, 23, none⟩ = some (.int .i64 0) ∧ U.cell? ⟨g, 26, none⟩ = some (.int .i64 1) ∧ U.cell? ⟨g, 32, none⟩ = some (.int .i64 80)) := hide fun U hU => ⟨kc _ 1 _ rfl hU, kc _ 8 _ rfl hU, kc _ 9 _ rfl hU, kc _ 10 _ rfl hU, kc _ 11 _ rfl hU, kc _ 12 _ rfl hU, kc _ 13 _ rfl hU, kc _ 14 _ rfl hU, kc _ 15 _ rfl hU, kc _ 16 _ rfl hU, kc _ 17 _ rfl hU, kc _ 18 _ rfl hU, kc _ 19 _ rfl hU, kc _ 20 _ rfl hU, kc _ 21 _ rfl hU, kc _ 22 _ rfl hU, kc _ 23 _ rfl hU, kc _ 26 _ rfl hU, kc _ 32 _ rfl hU⟩
   clear hm5 hg5 hn5 hv5 hcl kc
   go_upto_region 14 with fail
   refine wp_region_held_drew (S := (fun U => U.cell? ⟨g, 1, none⟩ = some (.int .i64 1) ∧ U.cell? ⟨g, 8, none⟩ = some (.int .i64 0) ∧ U.cell? ⟨g, 9, none⟩ = some (.int .i64 0) ∧ U.cell? ⟨g, 10, none⟩ = some (.int .i64 0) ∧ U.cell? ⟨g, 11, none⟩ = some (.int .i64 1) ∧ U.cell? ⟨g, 12, none⟩ = some (.int .i64 0) ∧ U.cell? ⟨g, 13, none⟩ = some (.int .i64 0) ∧ U.cell? ⟨g, 14, none⟩ = some (.int .i64 0) ∧ U.cell? ⟨g, 15, none⟩ = some (.int .i64 0) ∧ U.cell? ⟨g, 16, none⟩ = some (.int .i64 0) ∧ U.cell? ⟨g, 17, none⟩ = some (.int .i64 0) ∧ U.cell? ⟨g, 18, none⟩ = some (.int .i64 0) ∧ U.cell? ⟨g, 19, none⟩ = some (.int .i64 1) ∧ U.cell? ⟨g, 20, none⟩ = some (.int .i64 0) ∧ U.cell? ⟨g, 21, none⟩ = some (.int .i64 0) ∧ U.cell? ⟨g, 22, none⟩ = some (.int .i64 0) ∧ U.cell? ⟨g, 23, none⟩ = some (.int .i64 0) ∧ U.cell? ⟨g, 26, none⟩ = some (.int .i64 1) ∧ U.cell? ⟨g, 32, none⟩ = some (.int .i64 80))) (by kernel_rfl) (HKP.out _ (bdrew wr 1)) (fun hHeld => ?_)
   refine tkI (i := 0) (oi := ⟨some 59, Op.move (Operand.tmp 3), 102, _, _, none⟩) (v := ?_) rfl (by rfl) ?_ ?_
   rotate_left
   ·intro w hSw
    (try dsimp only at hSw)
    go_simp
    try with_reducible rfl
   try simp only [Act.put, qA, qB, qC]
   refine tkI (i := 1) (oi := ⟨some 60, Op.indexAddr 102 (Operand.tmp 59) (Operand.const (Value.int IntKind.i64 0)), 0, _, _, none⟩) (v := ?_) rfl (by rfl) ?_ ?_
   rotate_left
   ·intro w hSw
    (try dsimp only at hSw)
    go_simp
    try with_reducible rfl
   try simp only [Act.put, qA, qB, qC]
   refine tkI (i := 2) (oi := ⟨some 61, Op.fieldAddr 66 (Operand.tmp 60) 1, 0, _, _, none⟩) (v := ?_) rfl (by rfl) ?_ ?_
   rotate_left
   ·intro w hSw
    (try dsimp only at hSw)
    go_simp
    try with_reducible rfl
   try simp only [Act.put, qA, qB, qC]
   refine tkI (i := 3) (oi := ⟨some 62, Op.load 3 (Operand.tmp 61), 3, _, _, none⟩) (v := ?_) rfl (by rfl) ?_ ?_
   rotate_left
   ·intro w hSw
    (try dsimp only at hSw)
    go_simp
    try with_reducible rfl
   try simp only [Act.put, qA, qB, qC]
   refine tkI (i := 4) (oi := ⟨some 63, Op.binOp BinOp.eql 3 (Operand.tmp 62) (Operand.const (Value.int IntKind.i64 1)) 3, 4, _, _, none⟩) (v := (.bool true)) rfl (by rfl) ?_ ?_
   ·intro w hSw
    (try dsimp only at hSw)
    go_simp
    try with_reducible rfl
   try simp only [Act.put, qA, qB, qC]
   refine tkI (i := 5) (oi := ⟨some 64, Op.move (Operand.tmp 63), 4, _, _, none⟩) (v := (.bool true)) rfl (by rfl) ?_ ?_
   ·intro w hSw
    (try dsimp only at hSw)
    go_simp
    try with_reducible rfl
   try simp only [Act.put, qA, qB, qC]
   refine tkI (i := 6) (oi := ⟨some 65, Op.move (Operand.tmp 3), 102, _, _, some (5, true)⟩) (v := ?_) rfl (by rfl) ?_ ?_
   rotate_left
   ·intro w hSw
    (try dsimp only at hSw)
    go_simp
    try with_reducible rfl
   try simp only [Act.put, qA, qB, qC]
   refine tkI (i := 7) (oi := ⟨some 66, Op.indexAddr 102 (Operand.tmp 65) (Operand.const (Value.int IntKind.i64 1)), 0, _, _, some (5, true)⟩) (v := ?_) rfl (by rfl) ?_ ?_
   rotate_left
   ·intro w hSw
    (try dsimp only at hSw)
    go_simp
    try with_reducible rfl
   try simp only [Act.put, qA, qB, qC]
   refine tkI (i := 8) (oi := ⟨some 67, Op.load 66 (Operand.tmp 66), 66, _, _, some (5, true)⟩) (v := ?_) rfl (by rfl) ?_ ?_
   rotate_left
   ·intro w hSw
    (try dsimp only at hSw)
    go_simp
    try with_reducible rfl
   try simp only [Act.put, qA, qB, qC]
   refine tkI (i := 9) (oi := ⟨some 68, Op.build 64 #[(0, Operand.const (Value.int IntKind.i64 1))], 64, _, _, some (5, true)⟩) (v := ?_) rfl (by rfl) ?_ ?_
   rotate_left
   ·intro w hSw
    (try dsimp only at hSw)
    go_simp
    try with_reducible rfl
   try simp only [Act.put, qA, qB, qC]
   refine tkI (i := 10) (oi := ⟨some 69, Op.build 66 #[(3, Operand.tmp 68)], 66, _, _, some (5, true)⟩) (v := ?_) rfl (by rfl) ?_ ?_
   rotate_left
   ·intro w hSw
    (try dsimp only at hSw)
    go_simp
    try with_reducible rfl
   try simp only [Act.put, qA, qB, qC]
   refine tkI (i := 11) (oi := ⟨some 70, Op.binOp BinOp.eql 66 (Operand.tmp 67) (Operand.tmp 69) 66, 4, _, _, some (5, true)⟩) (v := (.bool true)) rfl (by rfl) ?_ ?_
   ·intro w hSw
    (try dsimp only at hSw)
    go_simp
    try with_reducible rfl
   try simp only [Act.put, qA, qB, qC]
   refine tkI (i := 12) (oi := ⟨some 71, Op.pick (Operand.tmp 64) (Operand.tmp 70) (Operand.const (Value.bool false)), 4, _, _, none⟩) (v := (.bool true)) rfl (by rfl) ?_ ?_
   ·intro w hSw
    (try dsimp only at hSw)
    go_simp
    try with_reducible rfl
   try simp only [Act.put, qA, qB, qC]
   refine tkI (i := 13) (oi := ⟨some 72, Op.move (Operand.tmp 71), 4, _, _, none⟩) (v := (.bool true)) rfl (by rfl) ?_ ?_
   ·intro w hSw
    (try dsimp only at hSw)
    go_simp
    try with_reducible rfl
   try simp only [Act.put, qA, qB, qC]
   refine tkI (i := 14) (oi := ⟨some 73, Op.move (Operand.tmp 3), 102, _, _, some (13, true)⟩) (v := ?_) rfl (by rfl) ?_ ?_
   rotate_left
   ·intro w hSw
    (try dsimp only at hSw)
    go_simp
    try with_reducible rfl
   try simp only [Act.put, qA, qB, qC]
   refine tkI (i := 15) (oi := ⟨some 74, Op.indexAddr 102 (Operand.tmp 73) (Operand.const (Value.int IntKind.i64 2)), 0, _, _, some (13, true)⟩) (v := ?_) rfl (by rfl) ?_ ?_
   rotate_left
   ·intro w hSw
    (try dsimp only at hSw)
    go_simp
    try with_reducible rfl
   try simp only [Act.put, qA, qB, qC]
   refine tkI (i := 16) (oi := ⟨some 75, Op.load 66 (Operand.tmp 74), 66, _, _, some (13, true)⟩) (v := ?_) rfl (by rfl) ?_ ?_
   rotate_left
   ·intro w hSw
    (try dsimp only at hSw)
    go_simp
    try with_reducible rfl
   try simp only [Act.put, qA, qB, qC]
   refine tkI (i := 17) (oi := ⟨some 76, Op.move (Operand.tmp 3), 102, _, _, some (13, true)⟩) (v := ?_) rfl (by rfl) ?_ ?_
   rotate_left
   ·intro w hSw
    (try dsimp only at hSw)
    go_simp
    try with_reducible rfl
   try simp only [Act.put, qA, qB, qC]
   refine tkI (i := 18) (oi := ⟨some 77, Op.indexAddr 102 (Operand.tmp 76) (Operand.const (Value.int IntKind.i64 1)), 0, _, _, some (13, true)⟩) (v := ?_) rfl (by rfl) ?_ ?_
   rotate_left
   ·intro w hSw
    (try dsimp only at hSw)
    go_simp
    try with_reducible rfl
   try simp only [Act.put, qA, qB, qC]
   refine tkI (i := 19) (oi := ⟨some 78, Op.load 66 (Operand.tmp 77), 66, _, _, some (13, true)⟩) (v := ?_) rfl (by rfl) ?_ ?_
   rotate_left
   ·intro w hSw
    (try dsimp only at hSw)
    go_simp
    try with_reducible rfl
   try simp only [Act.put, qA, qB, qC]
   refine tkI (i := 20) (oi := ⟨some 79, Op.binOp BinOp.eql 66 (Operand.tmp 75) (Operand.tmp 78) 66, 4, _, _, some (13, true)⟩) (v := (.bool true)) rfl (by rfl) ?_ ?_
   ·intro w hSw
    (try dsimp only at hSw)
    go_simp
    try with_reducible rfl
   try simp only [Act.put, qA, qB, qC]
   refine tkI (i := 21) (oi := ⟨some 80, Op.pick (Operand.tmp 72) (Operand.tmp 79) (Operand.const (Value.bool false)), 4, _, _, none⟩) (v := (.bool true)) rfl (by rfl) ?_ ?_
   ·intro w hSw
    (try dsimp only at hSw)
    go_simp
    try with_reducible rfl
   try simp only [Act.put, qA, qB, qC]
   refine tkI (i := 22) (oi := ⟨some 81, Op.move (Operand.tmp 80), 4, _, _, none⟩) (v := (.bool true)) rfl (by rfl) ?_ ?_
   ·intro w hSw
    (try dsimp only at hSw)
    go_simp
    try with_reducible rfl
   try simp only [Act.put, qA, qB, qC]
   refine tkI (i := 23) (oi := ⟨some 82, Op.move (Operand.tmp 3), 102, _, _, some (22, true)⟩) (v := ?_) rfl (by rfl) ?_ ?_
   rotate_left
   ·intro w hSw
    (try dsimp only at hSw)
    go_simp
    try with_reducible rfl
   try simp only [Act.put, qA, qB, qC]
   refine tkI (i := 24) (oi := ⟨some 83, Op.indexAddr 102 (Operand.tmp 82) (Operand.const (Value.int IntKind.i64 3)), 0, _, _, some (22, true)⟩) (v := ?_) rfl (by rfl) ?_ ?_
   rotate_left
   ·intro w hSw
    (try dsimp only at hSw)
    go_simp
    try with_reducible rfl
   try simp only [Act.put, qA, qB, qC]
   refine tkI (i := 25) (oi := ⟨some 84, Op.fieldAddr 66 (Operand.tmp 83) 2, 0, _, _, some (22, true)⟩) (v := ?_) rfl (by rfl) ?_ ?_
   rotate_left
   ·intro w hSw
    (try dsimp only at hSw)
    go_simp
    try with_reducible rfl
   try simp only [Act.put, qA, qB, qC]
   refine tkI (i := 26) (oi := ⟨some 85, Op.load 3 (Operand.tmp 84), 3, _, _, some (22, true)⟩) (v := ?_) rfl (by rfl) ?_ ?_
   rotate_left
   ·intro w hSw
    (try dsimp only at hSw)
    go_simp
    try with_reducible rfl
   try simp only [Act.put, qA, qB, qC]
   refine tkI (i := 27) (oi := ⟨some 86, Op.binOp BinOp.eql 3 (Operand.tmp 85) (Operand.const (Value.int IntKind.i64 1)) 3, 4, _, _, some (22, true)⟩) (v := (.bool true)) rfl (by rfl) ?_ ?_
   ·intro w hSw
    (try dsimp only at hSw)
    go_simp
    try with_reducible rfl
   try simp only [Act.put, qA, qB, qC]
   refine tkI (i := 28) (oi := ⟨some 87, Op.pick (Operand.tmp 81) (Operand.tmp 86) (Operand.const (Value.bool false)), 4, _, _, none⟩) (v := (.bool true)) rfl (by rfl) ?_ ?_
   ·intro w hSw
    (try dsimp only at hSw)
    go_simp
    try with_reducible rfl
   try simp only [Act.put, qA, qB, qC]
   refine tkI (i := 29) (oi := ⟨some 88, Op.move (Operand.tmp 87), 4, _, _, none⟩) (v := (.bool true)) rfl (by rfl) ?_ ?_
   ·intro w hSw
    (try dsimp only at hSw)
    go_simp
    try with_reducible rfl
   try simp only [Act.put, qA, qB, qC]
   refine tkI (i := 30) (oi := ⟨some 89, Op.move (Operand.tmp 3), 102, _, _, some (29, true)⟩) (v := ?_) rfl (by rfl) ?_ ?_
   rotate_left
   ·intro w hSw
    (try dsimp only at hSw)
    go_simp
    try with_reducible rfl
   try simp only [Act.put, qA, qB, qC]
   refine tkI (i := 31) (oi := ⟨some 90, Op.indexAddr 102 (Operand.tmp 89) (Operand.const (Value.int IntKind.i64 4)), 0, _, _, some (29, true)⟩) (v := ?_) rfl (by rfl) ?_ ?_
   rotate_left
   ·intro w hSw
    (try dsimp only at hSw)
    go_simp
    try with_reducible rfl
   try simp only [Act.put, qA, qB, qC]
   refine tkI (i := 32) (oi := ⟨some 91, Op.fieldAddr 66 (Operand.tmp 90) 0, 0, _, _, some (29, true)⟩) (v := ?_) rfl (by rfl) ?_ ?_
   rotate_left
   ·intro w hSw
    (try dsimp only at hSw)
    go_simp
    try with_reducible rfl
   try simp only [Act.put, qA, qB, qC]
   refine tkI (i := 33) (oi := ⟨some 92, Op.load 33 (Operand.tmp 91), 33, _, _, some (29, true)⟩) (v := ?_) rfl (by rfl) ?_ ?_
   rotate_left
   ·intro w hSw
    (try dsimp only at hSw)
    go_simp
    try with_reducible rfl
   try simp only [Act.put, qA, qB, qC]
   refine tkI (i := 34) (oi := ⟨some 93, Op.binOp BinOp.eql 33 (Operand.tmp 92) (Operand.const (Value.int IntKind.i64 80)) 33, 4, _, _, some (29, true)⟩) (v := (.bool true)) rfl (by rfl) ?_ ?_
   ·intro w hSw
    (try dsimp only at hSw)
    go_simp
    try with_reducible rfl
   try simp only [Act.put, qA, qB, qC]
   refine tkI (i := 35) (oi := ⟨some 94, Op.pick (Operand.tmp 88) (Operand.tmp 93) (Operand.const (Value.bool false)), 4, _, _, none⟩) (v := (.bool true)) rfl (by rfl) ?_ ?_
   ·intro w hSw
    (try dsimp only at hSw)
    go_simp
    try with_reducible rfl
   try simp only [Act.put, qA, qB, qC]
   refine tkI (i := 36) (oi := ⟨some 95, Op.move (Operand.tmp 94), 4, _, _, none⟩) (v := (.bool true)) rfl (by rfl) ?_ ?_
   ·intro w hSw
    (try dsimp only at hSw)
    go_simp
    try with_reducible rfl
   try simp only [Act.put, qA, qB, qC]
   refine tkI (i := 37) (oi := ⟨some 96, Op.move (Operand.tmp 1), 47, _, _, some (36, true)⟩) (v := ?_) rfl (by rfl) ?_ ?_
   rotate_left
   ·intro w hSw
    (try dsimp only at hSw)
    go_simp
    try with_reducible rfl
   try simp only [Act.put, qA, qB, qC]
   refine wpAnyH_ready (rs := [38]) (by kernel_rfl) (by simp) ?_
   refine AllReadyH.cons (o := ⟨some 97, Op.call { callee := Callee.value (Operand.func 42), args := #[Operand.tmp 96], argTypes := #[47] }, 23, _, _, some (36, true)⟩) rfl (fun K hK => ?_) AllReadyH.nil
   go_simp
   go_at_call 42
   refine (HMT.out _ (bdrew wr 1)).mono ?_
   rintro e7 W7 ⟨p7, c7, rfl, hb7⟩
   first
    | refine hK.out _ _ ?_ (fun hHeld => ?_)
    | (go_wp2_with fail; refine hK.out _ _ ?_ (fun hHeld => ?_))
   ·exact (HKP.out _ ((bdrew wr 1).trans hb7))
   clear hK K
   try simp only [Act.put, qA, qB, qC]
   refine tkI (i := 39) (oi := ⟨some 98, Op.call { callee := Callee.builtin Builtin.len, args := #[Operand.tmp 97], argTypes := #[23] }, 3, _, _, some (36, true)⟩) (v := ?_) rfl (by rfl) ?_ ?_
   rotate_left
   ·intro w hSw
    (try dsimp only at hSw)
    go_simp
    try with_reducible rfl
   try simp only [Act.put, qA, qB, qC]
   refine tkI (i := 40) (oi := ⟨some 99, Op.binOp BinOp.eql 3 (Operand.tmp 98) (Operand.const (Value.int IntKind.i64 1)) 3, 4, _, _, some (36, true)⟩) (v := (.bool true)) rfl (by rfl) ?_ ?_
   ·intro w hSw
    (try dsimp only at hSw)
    go_simp
    try with_reducible rfl
   try simp only [Act.put, qA, qB, qC]
   refine tkI (i := 41) (oi := ⟨some 100, Op.pick (Operand.tmp 95) (Operand.tmp 99) (Operand.const (Value.bool false)), 4, _, _, none⟩) (v := (.bool true)) rfl (by rfl) ?_ ?_
   ·intro w hSw
    (try dsimp only at hSw)
    go_simp
    try with_reducible rfl
   try simp only [Act.put, qA, qB, qC]
   refine tkI (i := 42) (oi := ⟨some 0, Op.assign (Operand.tmp 100), 4, _, _, none⟩) (v := ?_) rfl (by rfl) ?_ ?_
   rotate_left
   ·intro w hSw
    (try dsimp only at hSw)
    go_simp
    try with_reducible rfl
   try simp only [Act.put, qA, qB, qC]
   refine wpAnyH_done (by kernel_rfl) ?_ _
   clear hHeld
   go_wp2
   go_ret
   exact ⟨rfl, HBR.out.trans (((bdrew wr 1).trans hb7).mono HBR.out.size)⟩
end Go.Proofs.YtionbmlicmibgaaGreatDoor
