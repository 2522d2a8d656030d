/- The walk of the statement on scans. -/
import Derived.Test.YthcakinkioniaaaLawNob
import Derived.Test.YthcakinkioniaaaLawTorn
import Derived.Test.YthcakinkioniaaaLawForms
namespace Go.Proofs.Ythcakinkioniaaa
open Go.RowKit

/-- The value v is a slice of asks. -/
def Asks (w : World) (v : Value) (ls : List (Int × Int)) : Prop :=
  ∃ (p : Option Addr) (c : Nat), v = .slice p ls.length c ∧ (ls.length : Int) ≤ 9223372036854775807 ∧ ∀ (i : Nat), i < ls.length → ∃ b o x y, p = some ⟨b, o, none⟩ ∧ ls[i]? = some (x, y) ∧ w.cell? ⟨b, o + i * 2, none⟩ = some (.int .i64 x) ∧ w.cell? ⟨b, o + i * 2 + 1, none⟩ = some (.int .i64 y) ∧
    -9223372036854775808 ≤ y ∧ y ≤ 9223372036854775807

theorem Asks.at {w : World} {p : Option Addr} {n c : Nat} {ks : List (Int × Int)} (h : Asks w (.slice p n c) ks) {j : Nat} (hj : j < n) :
    ∃ b o x y, p = some ⟨b, o, none⟩ ∧ w.cell? ⟨b, o + j * 2, none⟩ = some (.int .i64 x) ∧ w.cell? ⟨b, o + j * 2 + 1, none⟩ = some (.int .i64 y) ∧ -9223372036854775808 ≤ y ∧ y ≤ 9223372036854775807 := by
  obtain ⟨p', c', e, _, hc⟩ := h
  injection e with e1 e2 e3
  subst e1
  obtain ⟨b, o, x, y, h1, _, h2, h3, h4, h5⟩ := hc j (by omega)
  exact ⟨b, o, x, y, h1, h2, h3, h4, h5⟩

theorem Sc.grown {w w' : World} {g : Nat} {v : Value} {at_ E : Nat} {row : Option Nat} (h : Sc w g v at_ E) (hg : w.grownBy w' row) (hne : some g ≠ row) : Sc w' g v at_ E := (hg.block g h.lt hne).trans h
theorem Sr.grown {w w' : World} {g : Nat} {v : Value} {at_ E : Nat} {row : Option Nat} (h : Sr w g v at_ E) (hg : w.grownBy w' row) (hne : some g ≠ row) : Sr w' g v at_ E := (hg.block g h.lt hne).trans h

/-- Bytes that lie where the call began lie in no block of the call's own. -/
theorem By.old {w : World} {p : Option Addr} {n c : Nat} {l : List UInt8} (h : By w (.slice p n c) l) {g : Nat} (hg : w.heap.size ≤ g) : l = [] ∨ ∀ k, (Value.slice p n c).ownBlock = some k → some g ≠ some k := by
  obtain ⟨p', c', e, hl, hm, hno, hc⟩ := h
  injection e with e1 e2 e3
  subst e1 e3
  cases l with
  | nil => exact .inl rfl
  | cons x r =>
    refine .inr fun k hk e => ?_
    rcases p with _ | a
    · have := hno rfl
      simp at hl
      omega
    · have h0 := lt_of_cell (hc a rfl 0 x rfl)
      rw [block_add] at h0
      injection e with e
      have : k = a.block := by
        simpa [Value.ownBlock] using hk.symm
      omega

/-- Both scans, at one place and with one error. -/
structure Two' (w W : World) (g r : Nat) (u b : Value) (l : List UInt8) (at_ E : Nat) : Prop where
  sc : Sc W g u at_ E
  sr : Sr W r b at_ E
  bu : By W u l
  bb : By w b l
  bel : Below w.heap.size w W
  hg : w.heap.size ≤ g
  hr : w.heap.size ≤ r
  gr : g ≠ r
  ug : l = [] ∨ ∀ k, u.ownBlock = some k → some g ≠ some k
  ur : l = [] ∨ ∀ k, u.ownBlock = some k → some r ≠ some k

/-- .. behind a write elsewhere. -/
theorem Two'.kept {w W W' : World} {g r : Nat} {u b : Value} {l : List UInt8} {at_ E : Nat} (h : Two' w W g r u b l at_ E) {row : Option Nat} (hg : W.grownBy W' row) (h1 : some g ≠ row) (h2 : some r ≠ row) (h3 : l = [] ∨ ∀ k, u.ownBlock = some k → row ≠ some k) (h4 : ∀ k, row = some k → w.heap.size ≤ k) : Two' w W' g r u b l at_ E :=
  ⟨h.sc.grown hg h1, h.sr.grown hg h2, h.bu.grown hg h3, h.bb, h.bel.grown hg h.bel.size h4, h.hg, h.hr, h.gr, h.ug, h.ur⟩

/-- .. behind a read of each. -/
theorem Two'.step {w W W1 W2 : World} {g r : Nat} {u b : Value} {l : List UInt8} {at_ E A F : Nat} (h : Two' w W g r u b l at_ E) (h1 : Sc W1 g u A F) (hg1 : W.grownBy W1 (some g)) (h2 : Sr W2 r b A F) (hg2 : W1.grownBy W2 (some r)) : Two' w W2 g r u b l A F :=
  ⟨h1.grown hg2 (fun e => h.gr (by injection e)), h2, (h.bu.grown hg1 h.ug).grown hg2 h.ur, h.bb, (h.bel.grown hg1 h.bel.size (fun k hk => by injection hk with hk; have := h.hg; omega)).grown hg2 (Nat.le_trans h.bel.size hg1.size) (fun k hk => by injection hk with hk; have := h.hr; omega), h.hg, h.hr, h.gr, h.ug, h.ur⟩

theorem Sr.below {w w' : World} {g : Nat} {v : Value} {at_ E : Nat} (h : Sr w g v at_ E) (hb : Below w.heap.size w w') : Sr w' g v at_ E := (hb.block g h.lt).trans h
theorem Two'.alloc {w W : World} {g r : Nat} {u b : Value} {l : List UInt8} {at_ E : Nat} (h : Two' w W g r u b l at_ E) (o : Obj) : Two' w (W.alloc o) g r u b l at_ E :=
  ⟨h.sc.below ((Below.refl _ _).alloc (Nat.le_refl _) _), h.sr.below ((Below.refl _ _).alloc (Nat.le_refl _) _), h.bu.alloc _, h.bb, balloc h.bel _, h.hg, h.hr, h.gr, h.ug, h.ur⟩
theorem Two'.drewN {w W : World} {g r : Nat} {u b : Value} {l : List UInt8} {at_ E : Nat} (h : Two' w W g r u b l at_ E) (q : Nat) : Two' w (W.drewN q) g r u b l at_ E :=
  ⟨h.sc, h.sr, h.bu, h.bb, below_drewN h.bel q, h.hg, h.hr, h.gr, h.ug, h.ur⟩

theorem num_le {l : List UInt8} {A F N A' F' : Nat} (h : (if F ≠ 0 then (0, A, F) else ((readNum (l.drop A)).1, A + (readNum (l.drop A)).2.1, (readNum (l.drop A)).2.2)) = (N, A', F')) (hA : A ≤ l.length) : A' ≤ l.length := by
  by_cases h0 : F ≠ 0
  · rw [if_pos h0] at h
    simp only [Prod.mk.injEq] at h
    omega
  · rw [if_neg h0] at h
    obtain ⟨n, k, e, hr⟩ : ∃ n k e, readNum (l.drop A) = (n, k, e) := ⟨_, _, _, rfl⟩
    rw [hr] at h
    have := (readNum_any hr).1
    rw [List.length_drop] at this
    simp only [Prod.mk.injEq] at h
    omega
theorem text_le {l : List UInt8} {A F M A' F' : Nat} {T : List UInt8} (h : (if F ≠ 0 then ([], A, F) else textP l A M) = (T, A', F')) (hA : A ≤ l.length) : A' ≤ l.length := by
  by_cases h0 : F ≠ 0
  · rw [if_pos h0] at h
    simp only [Prod.mk.injEq] at h
    omega
  · rw [if_neg h0] at h
    unfold textP textB at h
    split at h
    · simp only [Prod.mk.injEq] at h
      omega
    · split at h
      · simp only [Prod.mk.injEq] at h
        omega
      · split at h
        · simp only [Prod.mk.injEq] at h
          omega
        · simp only [Prod.mk.injEq] at h
          omega
theorem flag_le {l : List UInt8} {A F A' F' : Nat} {y : Bool} (h : (if F ≠ 0 then (false, A, F) else flagP l A) = (y, A', F')) (hA : A ≤ l.length) : A' ≤ l.length := by
  by_cases h0 : F ≠ 0
  · rw [if_pos h0] at h
    simp only [Prod.mk.injEq] at h
    omega
  · rw [if_neg h0] at h
    obtain ⟨n, k, e, hr⟩ : ∃ n k e, readNum (l.drop A) = (n, k, e) := ⟨_, _, _, rfl⟩
    unfold flagP at h
    rw [hr] at h
    dsimp only at h
    unfold flagB at h
    have := (readNum_any hr).1
    rw [List.length_drop] at this
    split at h
    · simp only [Prod.mk.injEq] at h
      omega
    · simp only [Prod.mk.injEq] at h
      omega

theorem Two'.below {w W W' : World} {g r : Nat} {u b : Value} {l : List UInt8} {at_ E : Nat} (h : Two' w W g r u b l at_ E) (hb : Below W.heap.size W W') : Two' w W' g r u b l at_ E :=
  ⟨h.sc.below hb, h.sr.below hb, h.bu.below hb, h.bb, h.bel.trans (hb.mono h.bel.size), h.hg, h.hr, h.gr, h.ug, h.ur⟩

/-- Between the reads of the one and the other. -/
structure Mid (w W : World) (g r : Nat) (u b : Value) (l : List UInt8) (at_ E A F : Nat) : Prop where
  sc : Sc W g u A F
  sr : Sr W r b at_ E
  bu : By W u l
  bb : By w b l
  bel : Below w.heap.size w W
  hg : w.heap.size ≤ g
  hr : w.heap.size ≤ r
  gr : g ≠ r
  ug : l = [] ∨ ∀ k, u.ownBlock = some k → some g ≠ some k
  ur : l = [] ∨ ∀ k, u.ownBlock = some k → some r ≠ some k
theorem Mid.below {w W W' : World} {g r : Nat} {u b : Value} {l : List UInt8} {at_ E A F : Nat} (h : Mid w W g r u b l at_ E A F) (hb : Below W.heap.size W W') : Mid w W' g r u b l at_ E A F :=
  ⟨h.sc.below hb, h.sr.below hb, h.bu.below hb, h.bb, h.bel.trans (hb.mono h.bel.size), h.hg, h.hr, h.gr, h.ug, h.ur⟩
theorem Two'.mid {w W W1 : World} {g r : Nat} {u b : Value} {l : List UInt8} {at_ E A F : Nat} (h : Two' w W g r u b l at_ E) (h1 : Sc W1 g u A F) (hg1 : W.grownBy W1 (some g)) : Mid w W1 g r u b l at_ E A F :=
  ⟨h1, h.sr.grown hg1 (fun e => h.gr (by injection e with e; exact e.symm)), h.bu.grown hg1 h.ug, h.bb, h.bel.grown hg1 h.bel.size (fun k hk => by injection hk with hk; have := h.hg; omega), h.hg, h.hr, h.gr, h.ug, h.ur⟩
theorem Mid.two {w W W2 : World} {g r : Nat} {u b : Value} {l : List UInt8} {at_ E A F : Nat} (h : Mid w W g r u b l at_ E A F) (h2 : Sr W2 r b A F) (hg2 : W.grownBy W2 (some r)) : Two' w W2 g r u b l A F :=
  ⟨h.sc.grown hg2 (fun e => h.gr (by injection e)), h2, h.bu.grown hg2 h.ur, h.bb, h.bel.grown hg2 h.bel.size (fun k hk => by injection hk with hk; have := h.hr; omega), h.hg, h.hr, h.gr, h.ug, h.ur⟩

theorem two_text {w X : World} {g r : Nat} {p1 p2 : Option Addr} {n c1 c2 : Nat} {l : List UInt8} {A F : Nat} (h : Two' w X g r (.slice p1 n c1) (.slice p2 n c2) l A F) (hA : A ≤ n) (y : Int) (M : Nat) (hM : max y 0 = (M : Int)) {T : List UInt8} {A' F' : Nat} (hP : (if F ≠ 0 then ([], A, F) else textP l A M) = (T, A', F')) {K0 : Nat} (hk : g ≠ K0)
    (V : World) (hV : Below X.heap.size X V) (hy : V.cell? ⟨K0, 1, none⟩ = some (.int .i64 y)) :
    Calls Try.prog 37 #[.pointer (some ⟨g, 0, none⟩), .int .i64 y] V fun e w' => e = .returned (.string (str T)) ∧ Mid w w' g r (.slice p1 n c1) (.slice p2 n c2) l A F A' F' ∧ w'.cell? ⟨K0, 1, none⟩ = some (.int .i64 y) := by
  have h2 := h.below hV
  refine (scanText_any (T := T) (A := A') (E := F') h2.sc h2.bu h2.ug hA y M hM hP).mono ?_
  rintro e w' ⟨rfl, hs, hg⟩
  exact ⟨rfl, h2.mid hs hg, hg.cell hy (fun e => hk (by injection e with e; exact e.symm))⟩

theorem mid_text {w V : World} {g r : Nat} {p1 p2 : Option Addr} {n c1 c2 : Nat} {l : List UInt8} {A F A' F' : Nat} (h : Mid w V g r (.slice p1 n c1) (.slice p2 n c2) l A F A' F') (hA : A ≤ n) (y : Int) (M : Nat) (hM : max y 0 = (M : Int)) {T : List UInt8} (hP : (if F ≠ 0 then ([], A, F) else textP l A M) = (T, A', F')) {K0 : Nat} (hk : r ≠ K0)
    (hy : V.cell? ⟨K0, 1, none⟩ = some (.int .i64 y)) :
    Calls Try.prog 38 #[.pointer (some ⟨r, 0, none⟩), .int .i64 y] V fun e w' => e = .returned (.string (str T)) ∧ Two' w w' g r (.slice p1 n c1) (.slice p2 n c2) l A' F' ∧ w'.cell? ⟨K0, 1, none⟩ = some (.int .i64 y) := by
  refine (refScanText_any (T := T) (A := A') (E := F') h.sr (h.bb.below h.bel) (h.bb.old h.hr) hA y M hM hP).mono ?_
  rintro e w' ⟨rfl, hs, hg⟩
  exact ⟨rfl, h.two hs hg, hg.cell hy (fun e => hk (by injection e with e; exact e.symm))⟩

theorem Two'.left {w W : World} {g r : Nat} {p1 : Option Addr} {n c1 : Nat} {b : Value} {l : List UInt8} {A F : Nat} (h : Two' w W g r (.slice p1 n c1) b l A F) (hA : A ≤ n) (hn : (n : Int) ≤ 9223372036854775807) (V : World) (hV : Below W.heap.size W V) :
    Calls Try.prog 44 #[.pointer (some ⟨g, 0, none⟩)] V fun e w' => e = .returned (.int .i64 ((n : Int) - (A : Int))) ∧ Below W.heap.size W w' ∧ w'.cell? ⟨r, 1, none⟩ = some (.int .i64 (A : Int)) := by
  have h2 := h.below hV
  refine (sleft_any h2.sc.c0 h2.sc.c1 hA hn).mono ?_
  rintro e w' ⟨rfl, q, rfl⟩
  exact ⟨rfl, below_drewN hV q, h2.sr.c1⟩

theorem over7 {W V : World} {v : Value} {r : Nat} {z : Value} (hV : Below W.heap.size W V) (hv : By V v [7]) (hr : V.cell? ⟨r, 1, none⟩ = some z) :
    Calls Try.prog 34 #[v] V fun e w' => ∃ g, e = .returned (.pointer (some ⟨g, 0, none⟩)) ∧ Below W.heap.size W w' ∧ W.heap.size ≤ g ∧ g ≠ r ∧ w'.cell? ⟨r, 1, none⟩ = some z ∧ ∃ p n c, Sc w' g (.slice p n c) 0 0 ∧ By w' (.slice p n c) [7] := by
  refine (over_any hv (by decide)).mono ?_
  rintro e w' ⟨g, u, rfl, hg, hS, ho, _, hb⟩
  obtain ⟨p, n, c, rfl⟩ := ho.by_.sl
  have hlt := lt_of_cell hr
  exact ⟨g, rfl, hV.trans (hb.mono hV.size), Nat.le_trans hV.size hg, fun e => by simp only at hlt; omega, (hb.cell hlt).trans hr, p, n, c, hS, ho.by_⟩

theorem num7 {W V : World} {g r : Nat} {z : Value} (hV : Below W.heap.size W V) (hg : W.heap.size ≤ g) (hgr : g ≠ r) (hr : V.cell? ⟨r, 1, none⟩ = some z) (h : ∃ p n c, Sc V g (.slice p n c) 0 0 ∧ By V (.slice p n c) [7]) :
    Calls Try.prog 35 #[.pointer (some ⟨g, 0, none⟩)] V fun e w' => e = .returned (.int .i64 7) ∧ Below W.heap.size W w' ∧ w'.cell? ⟨r, 1, none⟩ = some z := by
  obtain ⟨p, n, c, hS, hb⟩ := h
  refine (scanNumber_any (l := [7]) (N := 7) (A := 1) (E := 0) hS hb (Nat.zero_le _) seven).mono ?_
  rintro e w' ⟨rfl, _, hg'⟩
  exact ⟨rfl, hV.grown hg' hV.size (fun k hk => by injection hk with hk; omega), hg'.cell hr (fun e => hgr (by injection e with e; exact e.symm))⟩

theorem cell_alloc {V : World} {a : Addr} {z : Value} (h : V.cell? a = some z) (o : Obj) : (V.alloc o).cell? a = some z := (((Below.refl V.heap.size V).alloc (Nat.le_refl _) o).cell (lt_of_cell h)).trans h

theorem xor255 (y : UInt8) : ∃ x : UInt8, bits BinOp.xor IntKind.u8 (y.toNat : Int) 255 = (x.toNat : Int) := by
  have hb := y.toNat_lt
  have hx : y.toNat ^^^ 255 < 256 := Nat.xor_lt_two_pow (n := 8) (by omega) (by omega)
  have h1 := u8_xor_nat y.toNat 255 (by omega) (by omega)
  exact ⟨UInt8.ofNat (y.toNat ^^^ 255), by rw [ofNat_toNat hx]; exact h1⟩

set_option maxRecDepth 200000 in
set_option maxHeartbeats 4000000 in
theorem scans_law (a0 : Option Addr) (len0 cap0 : Nat) (l : List UInt8) (hl : l.length = len0) (a1 : Option Addr) (len1 cap1 : Nat) (ks : List (Int × Int)) (w : World) (hv : By w (.slice a0 len0 cap0) l) (hk : Asks w (.slice a1 len1 cap1) ks) :
    Calls Try.prog 8 #[.slice a0 len0 cap0, .slice a1 len1 cap1] w fun e w' => e = .returned (.bool true) ∧ Below w.heap.size w w' := by
  by_cases hb : (131072 : Int) < (len0 : Int)
  · clear hv hk
    go_enter Try.func8, Try.ntmps8
    go_wp2_with fail
    refine (sum_none w).mono ?_
    rintro e w1 ⟨rfl, rfl⟩
    go_wp2
    go_ret
    exact ⟨rfl, Below.refl _ _⟩
  by_cases hb1 : (1000 : Int) < (len1 : Int)
  · clear hv hk
    go_enter Try.func8, Try.ntmps8
    go_wp2_with fail
    refine (sum_none w).mono ?_
    rintro e w1 ⟨rfl, rfl⟩
    go_wp2
    go_ret
    exact ⟨rfl, Below.refl _ _⟩
  · have HV := hide hv
    have HK := hide hk
    have HL := hide hl
    clear hv hk hl
    go_enter Try.func8, Try.ntmps8
    go_wp2_with fail
    refine (sclone_any HV.out (by have := HL.out; omega)).mono ?_
    rintro e w1 ⟨v1, rfl, ho1, hb1'⟩
    obtain ⟨q1, n1, c1, rfl⟩ := ho1.by_.sl
    have hn1 : n1 = len0 := by rw [ho1.by_.len.1]; exact HL.out
    subst hn1
    have hblk1 : ∀ k, 0 < n1 → (Value.slice q1 n1 c1).ownBlock = some k → w.heap.size ≤ k ∧ k < w1.heap.size := fun k h0 hk => ho1.lt (by have := HL.out; omega) k hk
    have HO1 := hide ho1
    have HB1 := hide hb1'
    have hs1 := hb1'.size
    clear ho1 hb1'
    go_wp2_with fail
    refine (over_any HO1.out.by_ (by have := HL.out; omega)).mono ?_
    rintro e w2 ⟨g, u, rfl, hg, hS, ho2, hne, hb2⟩
    obtain ⟨q2, n2, c2, rfl⟩ := ho2.by_.sl
    have hn2 : n2 = n1 := by rw [ho2.by_.len.1]; exact HL.out
    rw [hn2] at hS ho2 hne
    clear hn2
    have HS := hide hS
    have HO2 := hide ho2
    have HNE := hide hne
    have HB2 := hide (HB1.out.trans (hb2.mono hs1))
    have HO12 := hide (HO1.out.below hb2)
    clear hS ho2 hne hb2 HO1
    go_wp2_with fail
    have hS2 : Sc (w2.alloc (.cells #[.slice a0 n1 cap0, .int .i64 0, .int .i64 0] 50)) g (.slice q2 n1 c2) 0 0 := HS.out.below ((Below.refl _ _).alloc (Nat.le_refl _) _)
    have hR2 : Sr (w2.alloc (.cells #[.slice a0 n1 cap0, .int .i64 0, .int .i64 0] 50)) w2.heap.size (.slice a0 n1 cap0) 0 0 := heap_alloc_new _ _
    have hlt : g < w2.heap.size := HS.out.lt
    have hT : Two' w (w2.alloc (.cells #[.slice a0 n1 cap0, .int .i64 0, .int .i64 0] 50)) g w2.heap.size (.slice q2 n1 c2) (.slice a0 n1 cap0) l 0 0 :=
      ⟨hS2, hR2, HO2.out.by_.alloc _, HV.out, balloc HB2.out _, Nat.le_trans hs1 hg, HB2.out.size, by omega, HNE.out, HO2.out.notNew⟩
    have hO1 : Own w.heap.size (w2.alloc (.cells #[.slice a0 n1 cap0, .int .i64 0, .int .i64 0] 50)) (.slice q1 n1 c1) l := HO12.out.below ((Below.refl _ _).alloc (Nat.le_refl _) _)
    have hblk : ∀ k, 0 < n1 → (Value.slice q1 n1 c1).ownBlock = some k → w.heap.size ≤ k ∧ k < w1.heap.size := hblk1
    have hu2 : ∀ k, 0 < n1 → (Value.slice q2 n1 c2).ownBlock = some k → w1.heap.size ≤ k := fun k h0 hk => (HO2.out.lt (by have := HL.out; omega) k hk).1
    obtain ⟨r, hr⟩ : ∃ r, w2.heap.size = r := ⟨_, rfl⟩
    rw [hr] at hT hlt
    rw [hr]
    generalize (w2.alloc (.cells #[.slice a0 n1 cap0, .int .i64 0, .int .i64 0] 50)) = W at hT hO1 ⊢
    have HT := hide hT
    have HO1 := hide hO1
    have HBLK := hide hblk
    have HU2 := hide hu2
    clear hS2 hR2 hT hO1 hblk hu2 HS HO2 HNE HB2 HO12 hr HB1 hblk1
    go_loopw [33] (fun i wr => ∃ (m : Nat) (l' : List UInt8), m ≤ n1 ∧ i = .int .i64 m ∧ l'.length = n1 ∧ Own w.heap.size wr (.slice q1 n1 c1) l' ∧ (wr = W ∨ 0 < n1 ∧ W.grownBy wr (Value.slice q1 n1 c1).ownBlock)) (fun i _ => n1 - (intOf i).toNat)
    case atStart => exact ⟨0, l, by omega, rfl, HL.out, HO1.out, .inl rfl⟩
    case round =>
      obtain ⟨m, l', hm, rfl, hl', ho, hgw⟩ := hrel
      have HO := hide ho
      have HG := hide hgw
      have HL' := hide hl'
      clear ho hgw hl'
      by_cases hmn : (m : Int) < (n1 : Int)
      · obtain ⟨g1, y, rfl, hBg, hy, hcell, hfr, hset⟩ := HO.out.cellAt (j := m) (by omega)
        obtain ⟨x, hx⟩ := xor255 y
        have hset' := hset x
        have HSET := hide hset'
        clear hset hset' hy HO
        go_wp2_with fail
        go_roundw
        case rel => exact ⟨m + 1, l'.set m x, by omega, by go_num, by rw [List.length_set]; exact HL'.out, HSET.out, .inr ⟨by omega, by
          rcases HG.out with e | ⟨_, h⟩
          · rw [e]
            exact grown_set _ _ _ _
          · exact gtrans h (grown_set _ _ _ _)⟩⟩
        case measure => simp [intOf]; omega
      · have hT : Two' w wr g r (.slice q2 n1 c2) (.slice a0 n1 cap0) l 0 0 := by
          rcases HG.out with rfl | ⟨h0, h⟩
          · exact HT.out
          · refine HT.out.kept h (fun e => ?_) (fun e => ?_) (.inr fun k hk e => ?_) (fun k hk => (HBLK.out k h0 hk).1)
            · have := (HBLK.out g h0 e.symm).2
              omega
            · have := (HBLK.out r h0 e.symm).2
              omega
            · have h1 := (HBLK.out k h0 e).2
              have h2 := HU2.out k h0 hk
              omega
        have HT' := hide hT
        clear hT HO HG HL' HT HO1
        have HLE := hide HL.out
        go_wp2_with fail
        go_loopw [45] (fun i ws => ∃ j A F : Nat, j ≤ len1 ∧ i = .int .i64 j ∧ A ≤ n1 ∧ Two' w ws g r (.slice q2 n1 c2) (.slice a0 n1 cap0) l A F) (fun i _ => len1 - (intOf i).toNat)
        case atStart => exact ⟨0, 0, 0, by omega, rfl, Nat.zero_le _, HT'.out⟩
        case round =>
          obtain ⟨j, A, F, hj, rfl, hA, hT⟩ := hrel
          by_cases hjn : (j : Int) < (len1 : Int)
          · obtain ⟨bk, ok, x, y, rfl, hx, hy, hy1, hy2⟩ := HK.out.at (j := j) (by omega)
            have hx' := (hT.bel.cell (lt_of_cell hx)).trans hx
            have hy' := (hT.bel.cell (lt_of_cell hy)).trans hy
            obtain ⟨I, hI, hI1, hI2⟩ := mod_nat x 4 (by omega)
            rw [show ((4 : Nat) : Int) = 4 from rfl] at hI1 hI2
            have HT2 := hide hT
            have HY := hide (And.intro hy1 hy2)
            have hn1' : (n1 : Int) ≤ 9223372036854775807 := by omega
            clear hx hy hT hy1 hy2
            have hcase : I = 0 ∨ I = 1 ∨ I = 2 ∨ I = 3 := by omega
            obtain ⟨K0, hK0⟩ : ∃ K0, wr.heap.size = K0 := ⟨_, rfl⟩
            have hgK : g < K0 := by rw [← hK0]; exact HT2.out.sc.lt
            have hrK : r < K0 := by rw [← hK0]; exact HT2.out.sr.lt
            have HT3 := hide (HT2.out.alloc (.cells #[.int .i64 x, .int .i64 y] 52))
            have hyX : (wr.alloc (.cells #[.int .i64 x, .int .i64 y] 52)).cell? ⟨K0, 1, none⟩ = some (.int .i64 y) := by
              rw [← hK0, cell_of_row _ _ 1 _ 52 (0, 0) (heap_alloc_new _ _)]
              rfl
            have HYX := hide hyX
            clear hyX HT' HT2
            rcases hcase with rfl | rfl | rfl | rfl
            case' inl =>
              obtain ⟨N, A', F', hP⟩ : ∃ N A' F', (if F ≠ 0 then (0, A, F) else ((readNum (l.drop A)).1, A + (readNum (l.drop A)).2.1, (readNum (l.drop A)).2.2)) = (N, A', F') := ⟨_, _, _, rfl⟩
              have hA' : A' ≤ n1 := by have := num_le hP (by have := HL.out; omega); have := HL.out; omega
              have HP := hide hP
              clear hP
              go_wp2_with fail
              generalize wr.alloc (.cells #[.int .i64 x, .int .i64 y] 52) = X at HT3 HYX ⊢
              refine (scanNumber_any (N := N) (A := A') (E := F') HT3.out.sc HT3.out.bu hA HP.out).mono ?_
              rintro e x1 ⟨rfl, hs1', hg1⟩
              have HS1 := hide hs1'
              have HG1 := hide hg1
              clear hs1' hg1
              go_wp2_with fail
              refine (refScanNumber_any (N := N) (A := A') (E := F') (HT3.out.sr.grown HG1.out (fun e => HT3.out.gr (by injection e with e; exact e.symm))) (HT3.out.bb.below (HT3.out.bel.grown HG1.out HT3.out.bel.size (fun k hk => by injection hk with hk; have := HT3.out.hg; omega))) hA HP.out).mono ?_
              rintro e x2 ⟨rfl, hs2', hg2⟩
              have HT4 := hide (HT3.out.step HS1.out HG1.out hs2' hg2)
              clear hs2' hg2 HS1 HG1 HT3 HYX HP
              go_wp2_with fail
            case' inr.inl =>
              obtain ⟨M, hM⟩ : ∃ M : Nat, max y 0 = (M : Int) := ⟨(max y 0).toNat, by omega⟩
              obtain ⟨T, A', F', hP⟩ : ∃ N A' F', (if F ≠ 0 then ([], A, F) else textP l A M) = (N, A', F') := ⟨_, _, _, rfl⟩
              have hA' : A' ≤ n1 := by have := text_le hP (by have := HL.out; omega); have := HL.out; omega
              have HP := hide hP
              have HM := hide hM
              clear hP hM
              go_wp2_with fail
              generalize wr.alloc (.cells #[.int .i64 x, .int .i64 y] 52) = X at HT3 HYX ⊢
              have C37 := hide (two_text HT3.out hA y M HM.out HP.out (K0 := K0) (by omega))
              have C38 := hide (fun V (h : Mid w V g r (.slice q2 n1 c2) (.slice a0 n1 cap0) l A F A' F') => mid_text h hA y M HM.out HP.out (K0 := K0) (by omega))
              go_region_held3 (fun W => W.cell? ⟨K0, 1, none⟩ = some (.int .i64 y)) (first | exact HYX.out | exact hyc1 | exact hyc2) (first
                | (go_at_call 37; refine (C37.out _ (by repeat (first | assumption | exact Below.refl _ _ | refine below_drewN ?_ _ | refine Below.drew ?_)) (by exact HYX.out)).mono ?_; rintro e x1 ⟨rfl, hmid, hyc1⟩)
                | (go_at_call 38; refine (C38.out _ (by exact hmid) (by exact hyc1)).mono ?_; rintro e x2 ⟨rfl, htwo, hyc2⟩))
              have HT4 := hide htwo
              clear hmid htwo C37 C38 hyc1 hyc2 HT3 HYX HP HM
              go_wp2_with fail
            case' inr.inr.inl =>
              obtain ⟨yy, A', F', hP⟩ : ∃ N A' F', (if F ≠ 0 then (false, A, F) else flagP l A) = (N, A', F') := ⟨_, _, _, rfl⟩
              have hA' : A' ≤ n1 := by have := flag_le hP (by have := HL.out; omega); have := HL.out; omega
              have HP := hide hP
              clear hP
              go_wp2_with fail
              generalize wr.alloc (.cells #[.int .i64 x, .int .i64 y] 52) = X at HT3 HYX ⊢
              refine (scanFlag_any (y := yy) (A := A') (E := F') HT3.out.sc HT3.out.bu hA HP.out).mono ?_
              rintro e x1 ⟨rfl, hs1', hg1⟩
              have HS1 := hide hs1'
              have HG1 := hide hg1
              clear hs1' hg1
              go_wp2_with fail
              refine (refScanFlag_any (y := yy) (A := A') (E := F') (HT3.out.sr.grown HG1.out (fun e => HT3.out.gr (by injection e with e; exact e.symm))) (HT3.out.bb.below (HT3.out.bel.grown HG1.out HT3.out.bel.size (fun k hk => by injection hk with hk; have := HT3.out.hg; omega))) hA HP.out).mono ?_
              rintro e x2 ⟨rfl, hs2', hg2⟩
              have HT4 := hide (HT3.out.step HS1.out HG1.out hs2' hg2)
              clear hs2' hg2 HS1 HG1 HT3 HYX HP
              have hyy : (yy == yy) = true := by cases yy <;> rfl
              go_wp2_with fail
            case' inr.inr.inr =>
              obtain ⟨F', hP⟩ : ∃ F', endE A n1 F = F' := ⟨_, rfl⟩
              have HP := hide hP
              clear hP
              go_wp2_with fail
              generalize wr.alloc (.cells #[.int .i64 x, .int .i64 y] 52) = X at HT3 HYX ⊢
              refine (scanEnd_any (E := F') HT3.out.sc hA hn1' HP.out).mono ?_
              rintro e x1 ⟨rfl, hs1', hg1⟩
              have HS1 := hide hs1'
              have HG1 := hide hg1
              clear hs1' hg1
              go_wp2_with fail
              refine (refScanEnd_any (E := F') (HT3.out.sr.grown HG1.out (fun e => HT3.out.gr (by injection e with e; exact e.symm))) HP.out).mono ?_
              rintro e x2 ⟨rfl, hs2', hg2⟩
              have HT4 := hide (HT3.out.step HS1.out HG1.out hs2' hg2)
              obtain ⟨A', hAA⟩ : ∃ A', A = A' := ⟨_, rfl⟩
              rw [hAA] at HT4
              have hA' : A' ≤ n1 := by omega
              clear hs2' hg2 HS1 HG1 HT3 HYX HP
              go_wp2_with fail
            all_goals
              have c0 := HT4.out.sc.c0
              have c1' := HT4.out.sc.c1
              have c2' := HT4.out.sc.c2
              have c3 := HT4.out.sc.c3
              have d1 := HT4.out.sr.c1
              have d2 := HT4.out.sr.c2
              have hAi : (A' : Int) ≤ (n1 : Int) := by omega
              clear hx' hy' hI1 hI2
              go_quiet ((first
                | (go_at_call 43; refine quiet_same (err_any (w := World.drewN _ _) c2' c3))
                | (go_at_call 44; refine Calls.quiet_of (sleft_any (w := World.drewN _ _) c0 c1' hA' hn1'))))
              have HT5 := hide (HT4.out.drewN nq)
              go_wp2_with fail
              go_roundw
              case rel => exact ⟨j + 1, A', F', by omega, by go_num, hA', HT5.out⟩
              case measure => simp [intOf]; omega
          · have HT2 := hide hT
            have d1 := hT.sr.c1
            have hAi : (A : Int) ≤ (n1 : Int) := by omega
            have hn1' : (n1 : Int) ≤ 9223372036854775807 := by omega
            have hw : IntKind.i64.wrap ((n1 : Int) - (A : Int)) = (n1 : Int) - (A : Int) := by rw [IntKind.wrap_i64]; omega
            clear hT HT'
            go_wp2_with fail
            have C44 := hide (HT2.out.left hA hn1')
            have C34 := hide (fun (V : World) (v : Value) (hV : Below wr.heap.size wr V) (hv : By V v [7]) (hr : V.cell? ⟨r, 1, none⟩ = some (.int .i64 (A : Int))) => over7 hV hv hr)
            have C35 := hide (fun (V : World) (g : Nat) (hV : Below wr.heap.size wr V) (hg : wr.heap.size ≤ g) (hgr : g ≠ r) (hr : V.cell? ⟨r, 1, none⟩ = some (.int .i64 (A : Int))) (h : ∃ p n c, Sc V g (.slice p n c) 0 0 ∧ By V (.slice p n c) [7]) => num7 hV hg hgr hr h)
            go_region_held3 (fun W => W.cell? ⟨r, 1, none⟩ = some (.int .i64 (A : Int))) (first | exact hc3 | exact hc2 | exact hc1 | exact cell_alloc hc1 _ | exact d1) (first
              | (go_at_call 44; refine (C44.out _ (by repeat (first | assumption | exact Below.refl _ _ | refine below_drewN ?_ _ | refine Below.drew ?_ | refine balloc ?_ _))).mono ?_; rintro e x1 ⟨rfl, hb1, hc1⟩)
              | (go_at_call 34; refine (C34.out _ _ (by repeat (first | assumption | exact Below.refl _ _ | refine below_drewN ?_ _ | refine Below.drew ?_ | refine balloc ?_ _)) (by exact one_lit _ 7 7 rfl) (by exact cell_alloc hc1 _)).mono ?_; rintro e x2 ⟨g2, rfl, hb2, hg2, hgr2, hc2, hs2⟩)
              | (go_at_call 35; refine (C35.out _ _ (by exact hb2) (by exact hg2) (by exact hgr2) (by exact hc2) (by exact hs2)).mono ?_; rintro e x3 ⟨rfl, hb3, hc3⟩))
            have HZ := hide (HT2.out.bel.trans (hb3.mono HT2.out.bel.size))
            clear hb1 hc1 hb2 hg2 hgr2 hc2 hs2 hb3 hc3 C44 C34 C35
            go_wp2
            go_ret
            exact ⟨rfl, HZ.out⟩
end Go.Proofs.Ythcakinkioniaaa
