import Derived.Test.YtionbmlicmibgaaGreatDoorX2
import Derived.Test.YtionbmlicmibgaaGreatDoorS15
set_option linter.unusedVariables false
set_option linter.unusedSimpArgs false
namespace Go.Proofs.YtionbmlicmibgaaGreatDoor
open Go.Proofs.Tryz
set_option maxRecDepth 200000
set_option maxHeartbeats 4000000
def dV (l : List UInt8) (st : Nat × Nat) : St × Nat × Nat :=
 let r1 := nx l st
 let r2 := nx l r1.2
 let r3 := nx l r2.2
 let r4 := nx l r3.2
 let r5 := nx l r4.2
 let r6 := nx l r5.2
 let r7 := nx l r6.2
 let r8 := nx l r7.2
 let r9 := nx l r8.2
 let YU := nx l r9.2
 let YV := nx l YU.2
 (⟨r1.1, r2.1, r3.1, ⟨r4.1, r5.1, r6.1, r7.1, r8.1, r9.1, YU.1, YV.1⟩⟩, YV.2)
theorem C4 {l : List UInt8} {st : Nat × Nat} (h : st.1 ≤ l.length) : (dV l st).2.1 ≤ l.length := by
 unfold dV;dsimp only;exact (av (av (av (av (av (av (av (av (av (av (av h).1).1).1).1).1).1).1).1).1).1).1
theorem yB {l : List UInt8} {a : Nat} {x : St} {r : List UInt8} (hx : x.ok = true) (h : l.drop a = cP x ++ r) : dV l (a, 0) = (x, a + (cP x).length, 0) ∧ l.drop (a + (cP x).length) = r := by
 have hr := ai h;have hb : ∀ n ∈ x.nums, 0 ≤ n ∧ n ≤ 1099511627776 := fun n hn => by
  have h2 : x.tell = true := by unfold St.ok at hx; simp at hx; exact hx.2
  exact iL.1 (adl.1 h2 n hn)
 obtain ⟨n1, n2, n3, ⟨n4, n5, n6, n7, n8, n9, n10, n11⟩⟩ := x;have b1 := hb n1 (by simp [St.nums]);have b2 := hb n2 (by simp [St.nums]);have b3 := hb n3 (by simp [St.nums]);have b4 := hb n4 (by simp [St.nums]);have b5 := hb n5 (by simp [St.nums]);have b6 := hb n6 (by simp [St.nums]);have b7 := hb n7 (by simp [St.nums]);have b8 := hb n8 (by simp [St.nums]);have b9 := hb n9 (by simp [St.nums]);have YW := hb n10 (by simp [St.nums]);have FQ := hb n11 (by simp [St.nums]);have F8 : cP ⟨n1, n2, n3, ⟨n4, n5, n6, n7, n8, n9, n10, n11⟩⟩ = digits n1.toNat ++ (digits n2.toNat ++ (digits n3.toNat ++ (digits n4.toNat ++ (digits n5.toNat ++ (digits n6.toNat ++ (digits n7.toNat ++ (digits n8.toNat ++ (digits n9.toNat ++ (digits n10.toNat ++ (digits n11.toNat)))))))))) := by
  simp [cP, jA, St.nums]
 refine ⟨?_, hr⟩;rw [F8] at h ⊢;simp only [ac7] at h;have q1 := au (l := l) (a := a) (n := n1.toNat) (by omega) h
 replace h := ai h
 have q2 := au (l := l) (a := a + (digits n1.toNat).length) (n := n2.toNat) (by omega) h
 replace h := ai h
 have q3 := au (l := l) (a := a + (digits n1.toNat).length + (digits n2.toNat).length) (n := n3.toNat) (by omega) h
 replace h := ai h
 have q4 := au (l := l) (a := a + (digits n1.toNat).length + (digits n2.toNat).length + (digits n3.toNat).length) (n := n4.toNat) (by omega) h
 replace h := ai h
 have q5 := au (l := l) (a := a + (digits n1.toNat).length + (digits n2.toNat).length + (digits n3.toNat).length + (digits n4.toNat).length) (n := n5.toNat) (by omega) h
 replace h := ai h
 have q6 := au (l := l) (a := a + (digits n1.toNat).length + (digits n2.toNat).length + (digits n3.toNat).length + (digits n4.toNat).length + (digits n5.toNat).length) (n := n6.toNat) (by omega) h
 replace h := ai h
 have q7 := au (l := l) (a := a + (digits n1.toNat).length + (digits n2.toNat).length + (digits n3.toNat).length + (digits n4.toNat).length + (digits n5.toNat).length + (digits n6.toNat).length) (n := n7.toNat) (by omega) h
 replace h := ai h
 have q8 := au (l := l) (a := a + (digits n1.toNat).length + (digits n2.toNat).length + (digits n3.toNat).length + (digits n4.toNat).length + (digits n5.toNat).length + (digits n6.toNat).length + (digits n7.toNat).length) (n := n8.toNat) (by omega) h
 replace h := ai h
 have q9 := au (l := l) (a := a + (digits n1.toNat).length + (digits n2.toNat).length + (digits n3.toNat).length + (digits n4.toNat).length + (digits n5.toNat).length + (digits n6.toNat).length + (digits n7.toNat).length + (digits n8.toNat).length) (n := n9.toNat) (by omega) h
 replace h := ai h
 have NP := au (l := l) (a := a + (digits n1.toNat).length + (digits n2.toNat).length + (digits n3.toNat).length + (digits n4.toNat).length + (digits n5.toNat).length + (digits n6.toNat).length + (digits n7.toNat).length + (digits n8.toNat).length + (digits n9.toNat).length) (n := n10.toNat) (by omega) h
 replace h := ai h
 have q11 := au (l := l) (a := a + (digits n1.toNat).length + (digits n2.toNat).length + (digits n3.toNat).length + (digits n4.toNat).length + (digits n5.toNat).length + (digits n6.toNat).length + (digits n7.toNat).length + (digits n8.toNat).length + (digits n9.toNat).length + (digits n10.toNat).length) (n := n11.toNat) (by omega) h
 replace h := ai h
 unfold dV;simp only [q1, q2, q3, q4, q5, q6, q7, q8, q9, NP, q11];refine Prod.ext ?_ (Prod.ext ?_ rfl)
 ·simp only [St.mk.injEq, Rp.mk.injEq];refine ⟨?_, ?_, ?_, ?_, ?_, ?_, ?_, ?_, ?_, ?_, ?_⟩;all_goals omega
 ·simp only [acH];omega
def wU (l : List UInt8) : Nat → Option (List St × Nat × Nat)
 | 0 => some ([], (nx l (0, 0)).2)
 | i + 1 => match wU l i with
  | none => none
  | some (L, st) => if (dV l st).1.ok && decide (L.length < 8) then some (ig L (dV l st).1, (dV l st).2) else none
theorem pT {l : List UInt8} {i : Nat} {L : List St} {st : Nat × Nat} (h : wU l i = some (L, st)) : wU l (i + 1) = if (dV l st).1.ok && decide (L.length < 8) then some (ig L (dV l st).1, (dV l st).2) else none := by
 unfold wU;rw [h]
theorem C5 {l : List UInt8} {i : Nat} (h : wU l i = none) : ∀ j, wU l (i + j) = none
 | 0 => h
 | j + 1 => by
  rw [← Nat.add_assoc];unfold wU;rw [C5 h j]
theorem qT {l : List UInt8} : ∀ {i : Nat} {L : List St} {st : Nat × Nat}, wU l i = some (L, st) → dS L ∧ st.1 ≤ l.length
 | 0, L, st, h => by
  unfold wU at h;injection h with h;injection h with h1 h2;subst h1 h2;exact ⟨dS.nil, (av (adq _)).1⟩
 | i + 1, L, st, h => by
  cases hi : wU l i with
  | none =>
   unfold wU at h;rw [hi] at h;cases h
  | some p =>
   obtain ⟨L', st'⟩ := p;obtain ⟨h1, h2⟩ := qT hi;rw [pT hi] at h
   split at h
   ·rename_i hc;simp only [adb, adr] at hc;injection h with h;injection h with e1 e2;subst e1;exact ⟨h1.ins hc.1 (.inr hc.2), by rw [← e2]; exact C4 h2⟩
   ·cases h
def AB (l : List UInt8) : Nat := (nx l (0, 0)).1
theorem Ni (l : List UInt8) : AB l < 9223372036854775808 := (av (adq _)).2
def loadT (l : List UInt8) : Option (List St) := match wU l (AB l) with
 | some (L, _) => if dN L = l then some L else none
 | none => none
theorem qn {l : List UInt8} {L : List St} (h : loadT l = some L) : dN L = l ∧ dS L := by
 unfold loadT at h
 split at h
 ·rename_i L' st hl
  split at h
  ·rename_i he;injection h with h;subst h;exact ⟨he, (qT hl).1⟩
  ·cases h
 ·cases h
theorem vd {l : List UInt8} {L : List St} {st : Nat × Nat} (h : wU l (AB l) = some (L, st)) : loadT l = if dN L = l then some L else none := by
 unfold loadT;rw [h]
theorem vh {l : List UInt8} {i : Nat} (h : wU l i = none) (hi : i ≤ AB l) : loadT l = none := by
 unfold loadT;have := C5 h (AB l - i);rw [show i + (AB l - i) = AB l by omega] at this;rw [this]
theorem qU : ∀ {L : List St} {x : St}, (∀ y ∈ L, y.s < x.s) → ig L x = L ++ [x]
 | [], x, _ => rfl
 | y :: r, x, h => by
  have h1 := h y (ac8 ..);unfold ig;rw [acO (by omega), acO (by omega), qU fun z hz => h z (ade _ hz)];rfl
theorem Ag {l : List UInt8} {L : List St} (hL : dS L) (h : l = dN L) : AB l = L.length ∧ ∀ i, i ≤ L.length → ∃ a, wU l i = some (L.take i, (a, 0)) ∧ l.drop a = (L.drop i).flatMap cP := by
 have h0 : l.drop 0 = digits L.length ++ L.flatMap cP := by rw [h]; rfl
 have hn := au (by have := hL.len; omega) h0;have hd := ai h0;refine ⟨by unfold AB; rw [hn], fun i => ?_⟩
 induction i with
 | zero =>
  intro _;refine ⟨_, ?_, hd⟩;unfold wU;rw [hn];rfl
 | succ i ih =>
  intro hi;obtain ⟨a, ha, Gs⟩ := ih (by omega);obtain ⟨x, hx⟩ : ∃ x, L[i]? = some x := ⟨_, acF (by omega)⟩
  have VX := hL.ok x (acS hx);have Nj : L.drop i = x :: L.drop (i + 1) := by
   obtain ⟨bd, rfl⟩ := acL.1 hx;exact adL bd
  rw [Nj, adw] at Gs;obtain ⟨nO, hdr⟩ := yB VX Gs;refine ⟨_, ?_, hdr⟩;have hlen := hL.len;rw [pT ha, nO];dsimp only;rw [acW (by simp [VX, ac6]; omega), qU (fun y hy => ?_), ac5, hx]
  ·rfl
  ·obtain ⟨j, hj, rfl⟩ := List.getElem_of_mem hy;rw [ac6] at hj;rw [List.getElem_take];obtain ⟨bd, rfl⟩ := acL.1 hx;exact aen.1 hL.rises j i (by omega) bd (by omega)
theorem xy {L : List St} (hL : dS L) : loadT (dN L) = some L := by
 obtain ⟨h1, h2⟩ := Ag hL rfl;obtain ⟨a, ha, _⟩ := h2 L.length (acE _);rw [ad9] at ha;rw [← h1] at ha;rw [vd ha, acW rfl]
open Go.RowKit
theorem lI {w w' : World} {row : Option Nat} (h : w.grownBy w' row) (o : Obj) : w.grownBy (w'.alloc o) row := aJ h ((ada w' o none).but row)
theorem Sc.aW {w : World} {g : Nat} {v : Value} {at_ E : Nat} (h : Sc w g v at_ E) {b i : Nat} (x : Value) (aN : g ≠ b) : Sc (w.setCell ⟨b, i, none⟩ x) g v at_ E := by
 unfold Sc at *;rw [adf w ⟨b, i, none⟩ g _ (by simpa using aN)];exact h
theorem Sc.alloc' {w : World} {g : Nat} {v : Value} {at_ E : Nat} (h : Sc w g v at_ E) (o : Obj) : Sc (w.alloc o) g v at_ E := by
 have := h.lt;unfold Sc at *;rw [Below.heap_alloc w o g this];exact h
theorem YX (Y : World) (r : Nat) (t : TypeId) (v0 v1 v2 v3 v4 v5 v6 v7 v8 v9 v10 x0 x1 x2 x3 x4 x5 x6 x7 x8 x9 JD : Value) (h : Y.heap[r]? = some (.cells #[v0, v1, v2, v3, v4, v5, v6, v7, v8, v9, v10] t)) :
  (((((((((((Y.setCell ⟨r, 0, none⟩ x0).setCell ⟨r, 1, none⟩ x1).setCell ⟨r, 2, none⟩ x2).setCell ⟨r, 3, none⟩ x3).setCell ⟨r, 4, none⟩ x4).setCell ⟨r, 5, none⟩ x5).setCell ⟨r, 6, none⟩ x6).setCell ⟨r, 7, none⟩ x7).setCell ⟨r, 8, none⟩ x8).setCell ⟨r, 9, none⟩ x9).setCell ⟨r, 10, none⟩ JD).heap[r]? = some (.cells #[x0, x1, x2, x3, x4, x5, x6, x7, x8, x9, JD] t) := by
 have q0 := acK Y r 0 _ t x0 h;have q1 := acK _ r 1 _ t x1 q0;have q2 := acK _ r 2 _ t x2 q1;have q3 := acK _ r 3 _ t x3 q2;have q4 := acK _ r 4 _ t x4 q3;have q5 := acK _ r 5 _ t x5 q4;have q6 := acK _ r 6 _ t x6 q5;have q7 := acK _ r 7 _ t x7 q6;have q8 := acK _ r 8 _ t x8 q7;have q9 := acK _ r 9 _ t x9 q8;have NP := acK _ r 10 _ t JD q9;simp only [adn, adH, adI] at NP;exact NP
theorem Ah {w : World} {g : Nat} {p : Option Addr} {n c : Nat} {st : Nat × Nat} {l : List UInt8} (hS : Sc w g (.slice p n c) st.1 st.2) (gZ : By w (.slice p n c) l) (aN : l = [] ∨ ∀ k, (Value.slice p n c).ownBlock = some k → some g ≠ some k) (aG : st.1 ≤ l.length) :
  Calls prog 162 #[.pointer (some ⟨g, 0, none⟩)] w (qu w g (.slice p n c) (dV l st).2.1 (dV l st).2.2 (nC (dV l st).1)) := by
 have hn := gZ.len.1;have bd := hS.lt;obtain ⟨a0, E0⟩ := st;dsimp only at hS aG;have jM : Hid (∀ V, w.grownBy V (some g) → By V (.slice p n c) l) := af fun V hV => gZ.grown hV aN;obtain ⟨n1, a1, E1, h1⟩ : ∃ n a E, nx l (a0, E0) = (n, a, E) := ⟨_, _, _, rfl⟩
 obtain ⟨n2, a2, E2, h2⟩ : ∃ n a E, nx l (a1, E1) = (n, a, E) := ⟨_, _, _, rfl⟩
 obtain ⟨n3, a3, E3, h3⟩ : ∃ n a E, nx l (a2, E2) = (n, a, E) := ⟨_, _, _, rfl⟩
 obtain ⟨n4, a4, E4, h4⟩ : ∃ n a E, nx l (a3, E3) = (n, a, E) := ⟨_, _, _, rfl⟩
 obtain ⟨n5, a5, E5, h5⟩ : ∃ n a E, nx l (a4, E4) = (n, a, E) := ⟨_, _, _, rfl⟩
 obtain ⟨n6, a6, E6, h6⟩ : ∃ n a E, nx l (a5, E5) = (n, a, E) := ⟨_, _, _, rfl⟩
 obtain ⟨n7, a7, E7, h7⟩ : ∃ n a E, nx l (a6, E6) = (n, a, E) := ⟨_, _, _, rfl⟩
 obtain ⟨n8, a8, E8, h8⟩ : ∃ n a E, nx l (a7, E7) = (n, a, E) := ⟨_, _, _, rfl⟩
 obtain ⟨n9, a9, E9, h9⟩ : ∃ n a E, nx l (a8, E8) = (n, a, E) := ⟨_, _, _, rfl⟩
 obtain ⟨n10, NQ, RL, NR⟩ : ∃ n a E, nx l (a9, E9) = (n, a, E) := ⟨_, _, _, rfl⟩
 obtain ⟨n11, FB, JH, NS⟩ : ∃ n a E, nx l (NQ, RL) = (n, a, E) := ⟨_, _, _, rfl⟩
 have nO : dV l (a0, E0) = (⟨n1, n2, n3, ⟨n4, n5, n6, n7, n8, n9, n10, n11⟩⟩, FB, JH) := by
  unfold dV;simp only [h1, h2, h3, h4, h5, h6, h7, h8, h9, NR, NS]
 have l1 : a1 ≤ l.length := by have := (av (l := l) (st := (a0, E0)) (by dsimp only; omega)).1; rw [h1] at this; exact this
 have l2 : a2 ≤ l.length := by have := (av (l := l) (st := (a1, E1)) (by dsimp only; omega)).1; rw [h2] at this; exact this
 have l3 : a3 ≤ l.length := by have := (av (l := l) (st := (a2, E2)) (by dsimp only; omega)).1; rw [h3] at this; exact this
 have l4 : a4 ≤ l.length := by have := (av (l := l) (st := (a3, E3)) (by dsimp only; omega)).1; rw [h4] at this; exact this
 have l5 : a5 ≤ l.length := by have := (av (l := l) (st := (a4, E4)) (by dsimp only; omega)).1; rw [h5] at this; exact this
 have l6 : a6 ≤ l.length := by have := (av (l := l) (st := (a5, E5)) (by dsimp only; omega)).1; rw [h6] at this; exact this
 have l7 : a7 ≤ l.length := by have := (av (l := l) (st := (a6, E6)) (by dsimp only; omega)).1; rw [h7] at this; exact this
 have l8 : a8 ≤ l.length := by have := (av (l := l) (st := (a7, E7)) (by dsimp only; omega)).1; rw [h8] at this; exact this
 have l9 : a9 ≤ l.length := by have := (av (l := l) (st := (a8, E8)) (by dsimp only; omega)).1; rw [h9] at this; exact this
 have l10 : NQ ≤ l.length := by have := (av (l := l) (st := (a9, E9)) (by dsimp only; omega)).1; rw [NR] at this; exact this
 have l11 : FB ≤ l.length := by have := (av (l := l) (st := (NQ, RL)) (by dsimp only; omega)).1; rw [NS] at this; exact this
 rw [nO];dsimp only;have Ak := af nO;clear nO;have HL := af (acD hn aG);have H1 := af h1;have L1 := af l1;clear h1 l1;have H2 := af h2;have L2 := af l2;clear h2 l2;have H3 := af h3;have L3 := af l3;clear h3 l3;have H4 := af h4;have L4 := af l4;clear h4 l4;have H5 := af h5;have L5 := af l5;clear h5 l5;have H6 := af h6;have L6 := af l6;clear h6 l6;have H7 := af h7;have L7 := af l7;clear h7 l7;have H8 := af h8;have L8 := af l8;clear h8 l8;have H9 := af h9;have L9 := af l9;clear h9 l9;have H10 := af NR;have L10 := af l10;clear NR l10;have H11 := af NS;have L11 := af l11;clear NS l11;obtain ⟨X, hX⟩ : ∃ X, w.alloc (.cells #[.int .i64 0, .int .i64 0, .int .i64 0, .int .i64 0, .int .i64 0, .int .i64 0, .int .i64 0, .int .i64 0, .int .i64 0, .int .i64 0, .int .i64 0] 84) = X := ⟨_, rfl⟩
 have Hv : X.heap[w.heap.size]? = some (.cells #[.int .i64 0, .int .i64 0, .int .i64 0, .int .i64 0, .int .i64 0, .int .i64 0, .int .i64 0, .int .i64 0, .int .i64 0, .int .i64 0, .int .i64 0] 84 (0, 0)) := by rw [← hX]; exact acQ w _
 have S0 : Hid (Sc X g (.slice p n c) a0 E0) := af (by rw [← hX]; exact hS.alloc' _);have G0 : Hid (w.grownBy X (some g)) := af (by rw [← hX]; exact lI (adk w _) _);have VP : w.heap.size < X.heap.size := (acJ.1 Hv).1;have jD : g ≠ w.heap.size := by omega
 have R0 := af Hv;have HX := af hX;clear hn aG hS gZ Hv hX;go_enter func162, ntmps162
 have k1 := ay S0.out (jM.out _ G0.out) (by have := HL.out; omega) (N := n1) (A := a1) (E := E1) H1.out;go_wp2_with fail
 rw [HX.out];refine k1.mono ?_;rintro e w1 ⟨rfl, dR, eQ⟩;have S1 := af dR;have G1 := af (aJ G0.out eQ);have R1 := af ((eQ.block w.heap.size VP (fun e => jD (by first | exact ac3 e | exact (ac3 e).symm))).trans R0.out);have fC : w.heap.size < w1.heap.size := acV VP eQ.size;clear dR eQ k1;have k2 := ay S1.out (jM.out _ G1.out) (by have := L1.out; have := HL.out.1; omega) (N := n2) (A := a2) (E := E2) H2.out;go_wp2_with fail
 refine k2.mono ?_;rintro e w2 ⟨rfl, eF, dO⟩;have S2 := af eF;have G2 := af (aJ G1.out dO);have R2 := af ((dO.block w.heap.size fC (fun e => jD (by first | exact ac3 e | exact (ac3 e).symm))).trans R1.out);have fD : w.heap.size < w2.heap.size := acV fC dO.size;clear eF dO k2;have k3 := ay S2.out (jM.out _ G2.out) (by have := L2.out; have := HL.out.1; omega) (N := n3) (A := a3) (E := E3) H3.out;go_wp2_with fail
 refine k3.mono ?_;rintro e w3 ⟨rfl, jH, fE⟩;have S3 := af jH;have G3 := af (aJ G2.out fE);have R3 := af ((fE.block w.heap.size fD (fun e => jD (by first | exact ac3 e | exact (ac3 e).symm))).trans R2.out);have GD : w.heap.size < w3.heap.size := acV fD fE.size;clear jH fE k3;obtain ⟨Y, hY⟩ : ∃ Y, w3.alloc (.cells #[.int .i64 n1, .int .i64 n2, .int .i64 n3, .int .i64 0, .int .i64 0, .int .i64 0, .int .i64 0, .int .i64 0, .int .i64 0, .int .i64 0, .int .i64 0] 84) = Y := ⟨_, rfl⟩
 have fF : Y.heap[w3.heap.size]? = some (.cells #[.int .i64 n1, .int .i64 n2, .int .i64 n3, .int .i64 0, .int .i64 0, .int .i64 0, .int .i64 0, .int .i64 0, .int .i64 0, .int .i64 0, .int .i64 0] 84 (0, 0)) := by rw [← hY]; exact acQ w3 _
 have S3' : Hid (Sc Y g (.slice p n c) a3 E3) := af (by rw [← hY]; exact S3.out.alloc' _);have G3' : Hid (w.grownBy Y (some g)) := af (by rw [← hY]; exact lI G3.out _);have R3' : Hid (Y.heap[w.heap.size]? = some (.cells #[.int .i64 0, .int .i64 0, .int .i64 0, .int .i64 0, .int .i64 0, .int .i64 0, .int .i64 0, .int .i64 0, .int .i64 0, .int .i64 0, .int .i64 0] 84 (0, 0))) := af (by rw [← hY]; exact (Below.heap_alloc w3 _ _ GD).trans R3.out);have hzY : w3.heap.size < Y.heap.size := (acJ.1 fF).1;have xP : w.heap.size < Y.heap.size := by omega
 have lw : g ≠ w3.heap.size := by omega
 have JI : w.heap.size ≠ w3.heap.size := by omega
 have B3 := af fF;have HY := af hY;clear fF hY;have k4 := ay S3'.out (jM.out _ G3'.out) (by have := L3.out; have := HL.out.1; omega) (N := n4) (A := a4) (E := E4) H4.out;go_wp2_with fail
 rw [HY.out];refine k4.mono ?_;rintro e w4 ⟨rfl, J1, lz⟩;have S4 := af J1;have G4 := af (aJ G3'.out lz);have R4 := af ((lz.block w.heap.size xP (fun e => jD (by first | exact ac3 e | exact (ac3 e).symm))).trans R3'.out);have B4 := af ((lz.block w3.heap.size hzY (fun e => lw (by first | exact ac3 e | exact (ac3 e).symm))).trans B3.out);have hz4 : w.heap.size < w4.heap.size := acV xP lz.size;have hy4 : w3.heap.size < w4.heap.size := acV hzY lz.size;clear J1 lz k4;have k5 := ay S4.out (jM.out _ G4.out) (by have := L4.out; have := HL.out.1; omega) (N := n5) (A := a5) (E := E5) H5.out;go_wp2_with fail
 refine k5.mono ?_;rintro e w5 ⟨rfl, lC, ik⟩;have S5 := af lC;have G5 := af (aJ G4.out ik);have R5 := af ((ik.block w.heap.size hz4 (fun e => jD (by first | exact ac3 e | exact (ac3 e).symm))).trans R4.out);have B5 := af ((ik.block w3.heap.size hy4 (fun e => lw (by first | exact ac3 e | exact (ac3 e).symm))).trans B4.out);have VW : w.heap.size < w5.heap.size := acV hz4 ik.size;have hy5 : w3.heap.size < w5.heap.size := acV hy4 ik.size;clear lC ik k5;have k6 := ay S5.out (jM.out _ G5.out) (by have := L5.out; have := HL.out.1; omega) (N := n6) (A := a6) (E := E6) H6.out;go_wp2_with fail
 refine k6.mono ?_;rintro e w6 ⟨rfl, Il, eM⟩;have S6 := af Il;have G6 := af (aJ G5.out eM);have R6 := af ((eM.block w.heap.size VW (fun e => jD (by first | exact ac3 e | exact (ac3 e).symm))).trans R5.out);have B6 := af ((eM.block w3.heap.size hy5 (fun e => lw (by first | exact ac3 e | exact (ac3 e).symm))).trans B5.out);have Dq : w.heap.size < w6.heap.size := acV VW eM.size;have hy6 : w3.heap.size < w6.heap.size := acV hy5 eM.size;clear Il eM k6;have b3 : w6.cell? ⟨w3.heap.size, 3, none⟩ = some (.int .i64 0) := acC w6 w3.heap.size 3 _ 84 (0, 0) B6.out;have SH : w6.frozen? ⟨w3.heap.size, 3, none⟩ = false := acI w6 w3.heap.size 3 _ 84 B6.out;have b4 : w6.cell? ⟨w3.heap.size, 4, none⟩ = some (.int .i64 0) := acC w6 w3.heap.size 4 _ 84 (0, 0) B6.out;have N4 : w6.frozen? ⟨w3.heap.size, 4, none⟩ = false := acI w6 w3.heap.size 4 _ 84 B6.out;have b5 : w6.cell? ⟨w3.heap.size, 5, none⟩ = some (.int .i64 0) := acC w6 w3.heap.size 5 _ 84 (0, 0) B6.out;have Wj : w6.frozen? ⟨w3.heap.size, 5, none⟩ = false := acI w6 w3.heap.size 5 _ 84 B6.out;have b6 : w6.cell? ⟨w3.heap.size, 6, none⟩ = some (.int .i64 0) := acC w6 w3.heap.size 6 _ 84 (0, 0) B6.out;have fb6 : w6.frozen? ⟨w3.heap.size, 6, none⟩ = false := acI w6 w3.heap.size 6 _ 84 B6.out;have b7 : w6.cell? ⟨w3.heap.size, 7, none⟩ = some (.int .i64 0) := acC w6 w3.heap.size 7 _ 84 (0, 0) B6.out;have fb7 : w6.frozen? ⟨w3.heap.size, 7, none⟩ = false := acI w6 w3.heap.size 7 _ 84 B6.out;have b8 : w6.cell? ⟨w3.heap.size, 8, none⟩ = some (.int .i64 0) := acC w6 w3.heap.size 8 _ 84 (0, 0) B6.out;have fb8 : w6.frozen? ⟨w3.heap.size, 8, none⟩ = false := acI w6 w3.heap.size 8 _ 84 B6.out;have b9 : w6.cell? ⟨w3.heap.size, 9, none⟩ = some (.int .i64 0) := acC w6 w3.heap.size 9 _ 84 (0, 0) B6.out;have fb9 : w6.frozen? ⟨w3.heap.size, 9, none⟩ = false := acI w6 w3.heap.size 9 _ 84 B6.out;have YW : w6.cell? ⟨w3.heap.size, 10, none⟩ = some (.int .i64 0) := acC w6 w3.heap.size 10 _ 84 (0, 0) B6.out;have Qg : w6.frozen? ⟨w3.heap.size, 10, none⟩ = false := acI w6 w3.heap.size 10 _ 84 B6.out;obtain ⟨U, hU⟩ : ∃ U, ((((((((w6.setCell ⟨w3.heap.size, 3, none⟩ (.int .i64 n4)).setCell ⟨w3.heap.size, 4, none⟩ (.int .i64 n5)).setCell ⟨w3.heap.size, 5, none⟩ (.int .i64 n6)).setCell ⟨w3.heap.size, 6, none⟩ (.int .i64 0)).setCell ⟨w3.heap.size, 7, none⟩ (.int .i64 0)).setCell ⟨w3.heap.size, 8, none⟩ (.int .i64 0)).setCell ⟨w3.heap.size, 9, none⟩ (.int .i64 0)).setCell ⟨w3.heap.size, 10, none⟩ (.int .i64 0)) = U := ⟨_, rfl⟩
 have BU : Hid (U.heap[w3.heap.size]? = some (.cells #[.int .i64 n1, .int .i64 n2, .int .i64 n3, .int .i64 n4, .int .i64 n5, .int .i64 n6, .int .i64 0, .int .i64 0, .int .i64 0, .int .i64 0, .int .i64 0] 84 (0, 0))) := af (by
  have q3 := acK w6 w3.heap.size 3 _ 84 (.int .i64 n4) B6.out;have q4 := acK _ w3.heap.size 4 _ 84 (.int .i64 n5) q3;have q5 := acK _ w3.heap.size 5 _ 84 (.int .i64 n6) q4;have q6 := acK _ w3.heap.size 6 _ 84 (.int .i64 0) q5;have q7 := acK _ w3.heap.size 7 _ 84 (.int .i64 0) q6;have q8 := acK _ w3.heap.size 8 _ 84 (.int .i64 0) q7;have q9 := acK _ w3.heap.size 9 _ 84 (.int .i64 0) q8;have NP := acK _ w3.heap.size 10 _ 84 (.int .i64 0) q9;simp only [adn, adH, adI] at NP;rw [← hU];exact NP)
 have SU : Hid (Sc U g (.slice p n c) a6 E6) := af (by rw [← hU]; exact (Sc.aW (Sc.aW (Sc.aW (Sc.aW (Sc.aW (Sc.aW (Sc.aW (Sc.aW S6.out _ lw) _ lw) _ lw) _ lw) _ lw) _ lw) _ lw) _ lw));have GU : Hid (w.grownBy U (some g)) := af (by rw [← hU]; exact (ah (ah (ah (ah (ah (ah (ah (ah G6.out (by omega)) (by omega)) (by omega)) (by omega)) (by omega)) (by omega)) (by omega)) (by omega)));have RU : Hid (U.heap[w.heap.size]? = some (.cells #[.int .i64 0, .int .i64 0, .int .i64 0, .int .i64 0, .int .i64 0, .int .i64 0, .int .i64 0, .int .i64 0, .int .i64 0, .int .i64 0, .int .i64 0] 84 (0, 0))) := af (by
  rw [← hU];rw [adf _ ⟨w3.heap.size, 10, none⟩ w.heap.size _ (by simpa using JI), adf _ ⟨w3.heap.size, 9, none⟩ w.heap.size _ (by simpa using JI), adf _ ⟨w3.heap.size, 8, none⟩ w.heap.size _ (by simpa using JI), adf _ ⟨w3.heap.size, 7, none⟩ w.heap.size _ (by simpa using JI), adf _ ⟨w3.heap.size, 6, none⟩ w.heap.size _ (by simpa using JI), adf _ ⟨w3.heap.size, 5, none⟩ w.heap.size _ (by simpa using JI), adf _ ⟨w3.heap.size, 4, none⟩ w.heap.size _ (by simpa using JI), adf _ ⟨w3.heap.size, 3, none⟩ w.heap.size _ (by simpa using JI)];exact R6.out)
 have hzU : w.heap.size < U.heap.size := (acJ.1 RU.out).1;have hyU : w3.heap.size < U.heap.size := (acJ.1 BU.out).1;have HU := af hU;clear hU;have k7 := ay SU.out (jM.out _ GU.out) (by have := L6.out; have := HL.out.1; omega) (N := n7) (A := a7) (E := E7) H7.out;go_wp2_with fail
 rw [HU.out];clear b3 b4 b5 b6 b7 b8 b9 YW SH N4 Wj fb6 fb7 fb8 fb9 Qg;refine k7.mono ?_;rintro e w7 ⟨rfl, VI, qb⟩;have S7 := af VI;have G7 := af (aJ GU.out qb);have R7 := af ((qb.block w.heap.size hzU (fun e => jD (by first | exact ac3 e | exact (ac3 e).symm))).trans RU.out);have B7 := af ((qb.block w3.heap.size hyU (fun e => lw (by first | exact ac3 e | exact (ac3 e).symm))).trans BU.out);have Zw : w.heap.size < w7.heap.size := acV hzU qb.size;have hy7 : w3.heap.size < w7.heap.size := acV hyU qb.size;clear VI qb k7;have k8 := ay S7.out (jM.out _ G7.out) (by have := L7.out; have := HL.out.1; omega) (N := n8) (A := a8) (E := E8) H8.out;go_wp2_with fail
 refine k8.mono ?_;rintro e w8 ⟨rfl, fG, zG⟩;have S8 := af fG;have G8 := af (aJ G7.out zG);have R8 := af ((zG.block w.heap.size Zw (fun e => jD (by first | exact ac3 e | exact (ac3 e).symm))).trans R7.out);have B8 := af ((zG.block w3.heap.size hy7 (fun e => lw (by first | exact ac3 e | exact (ac3 e).symm))).trans B7.out);have Tm : w.heap.size < w8.heap.size := acV Zw zG.size;have hy8 : w3.heap.size < w8.heap.size := acV hy7 zG.size;clear fG zG k8;have k9 := ay S8.out (jM.out _ G8.out) (by have := L8.out; have := HL.out.1; omega) (N := n9) (A := a9) (E := E9) H9.out;go_wp2_with fail
 refine k9.mono ?_;rintro e w9 ⟨rfl, Dw, ni⟩;have S9 := af Dw;have G9 := af (aJ G8.out ni);have R9 := af ((ni.block w.heap.size Tm (fun e => jD (by first | exact ac3 e | exact (ac3 e).symm))).trans R8.out);have B9 := af ((ni.block w3.heap.size hy8 (fun e => lw (by first | exact ac3 e | exact (ac3 e).symm))).trans B8.out);have kQ : w.heap.size < w9.heap.size := acV Tm ni.size;have Vq : w3.heap.size < w9.heap.size := acV hy8 ni.size;clear Dw ni k9;have ZN := ay S9.out (jM.out _ G9.out) (by have := L9.out; have := HL.out.1; omega) (N := n10) (A := NQ) (E := RL) H10.out;go_wp2_with fail
 refine ZN.mono ?_;rintro e Oe ⟨rfl, YZ, Ai⟩;have S10 := af YZ;have G10 := af (aJ G9.out Ai);have Y_ := af ((Ai.block w.heap.size kQ (fun e => jD (by first | exact ac3 e | exact (ac3 e).symm))).trans R9.out);have B10 := af ((Ai.block w3.heap.size Vq (fun e => lw (by first | exact ac3 e | exact (ac3 e).symm))).trans B9.out);have Za : w.heap.size < Oe.heap.size := acV kQ Ai.size;have Zb : w3.heap.size < Oe.heap.size := acV Vq Ai.size;clear YZ Ai ZN;have k11 := ay S10.out (jM.out _ G10.out) (by have := L10.out; have := HL.out.1; omega) (N := n11) (A := FB) (E := JH) H11.out;go_wp2_with fail
 refine k11.mono ?_;rintro e oI ⟨rfl, Zc, JJ⟩;have S11 := af Zc;have G11 := af (aJ G10.out JJ);have Zd := af ((JJ.block w.heap.size Za (fun e => jD (by first | exact ac3 e | exact (ac3 e).symm))).trans Y_.out);have Nk := af ((JJ.block w3.heap.size Zb (fun e => lw (by first | exact ac3 e | exact (ac3 e).symm))).trans B10.out);have acy : w.heap.size < oI.heap.size := acV Za JJ.size;have acz : w3.heap.size < oI.heap.size := acV Zb JJ.size;clear Zc JJ k11;have b6 : oI.cell? ⟨w3.heap.size, 6, none⟩ = some (.int .i64 0) := acC oI w3.heap.size 6 _ 84 (0, 0) Nk.out;have fb6 : oI.frozen? ⟨w3.heap.size, 6, none⟩ = false := acI oI w3.heap.size 6 _ 84 Nk.out;have b7 : oI.cell? ⟨w3.heap.size, 7, none⟩ = some (.int .i64 0) := acC oI w3.heap.size 7 _ 84 (0, 0) Nk.out;have fb7 : oI.frozen? ⟨w3.heap.size, 7, none⟩ = false := acI oI w3.heap.size 7 _ 84 Nk.out;have b8 : oI.cell? ⟨w3.heap.size, 8, none⟩ = some (.int .i64 0) := acC oI w3.heap.size 8 _ 84 (0, 0) Nk.out;have fb8 : oI.frozen? ⟨w3.heap.size, 8, none⟩ = false := acI oI w3.heap.size 8 _ 84 Nk.out;have b9 : oI.cell? ⟨w3.heap.size, 9, none⟩ = some (.int .i64 0) := acC oI w3.heap.size 9 _ 84 (0, 0) Nk.out;have fb9 : oI.frozen? ⟨w3.heap.size, 9, none⟩ = false := acI oI w3.heap.size 9 _ 84 Nk.out;have YW : oI.cell? ⟨w3.heap.size, 10, none⟩ = some (.int .i64 0) := acC oI w3.heap.size 10 _ 84 (0, 0) Nk.out;have Qg : oI.frozen? ⟨w3.heap.size, 10, none⟩ = false := acI oI w3.heap.size 10 _ 84 Nk.out;obtain ⟨V, hV⟩ : ∃ V, (((((oI.setCell ⟨w3.heap.size, 6, none⟩ (.int .i64 n7)).setCell ⟨w3.heap.size, 7, none⟩ (.int .i64 n8)).setCell ⟨w3.heap.size, 8, none⟩ (.int .i64 n9)).setCell ⟨w3.heap.size, 9, none⟩ (.int .i64 n10)).setCell ⟨w3.heap.size, 10, none⟩ (.int .i64 n11)) = V := ⟨_, rfl⟩
 have BV : V.heap[w3.heap.size]? = some (.cells #[.int .i64 n1, .int .i64 n2, .int .i64 n3, .int .i64 n4, .int .i64 n5, .int .i64 n6, .int .i64 n7, .int .i64 n8, .int .i64 n9, .int .i64 n10, .int .i64 n11] 84 (0, 0)) := by
  have q6 := acK oI w3.heap.size 6 _ 84 (.int .i64 n7) Nk.out;have q7 := acK _ w3.heap.size 7 _ 84 (.int .i64 n8) q6;have q8 := acK _ w3.heap.size 8 _ 84 (.int .i64 n9) q7;have q9 := acK _ w3.heap.size 9 _ 84 (.int .i64 n10) q8;have NP := acK _ w3.heap.size 10 _ 84 (.int .i64 n11) q9;simp only [adn, adH, adI] at NP;rw [← hV];exact NP
 have SV : Hid (Sc V g (.slice p n c) FB JH) := af (by rw [← hV]; exact ((((S11.out.aW _ lw).aW _ lw).aW _ lw).aW _ lw).aW _ lw);have GV : Hid (w.grownBy V (some g)) := af (by rw [← hV]; exact ah (ah (ah (ah (ah G11.out (by omega)) (by omega)) (by omega)) (by omega)) (by omega));have RV : V.heap[w.heap.size]? = some (.cells #[.int .i64 0, .int .i64 0, .int .i64 0, .int .i64 0, .int .i64 0, .int .i64 0, .int .i64 0, .int .i64 0, .int .i64 0, .int .i64 0, .int .i64 0] 84 (0, 0)) := by
  rw [← hV];rw [adf _ ⟨w3.heap.size, 10, none⟩ w.heap.size _ (by simpa using JI), adf _ ⟨w3.heap.size, 9, none⟩ w.heap.size _ (by simpa using JI), adf _ ⟨w3.heap.size, 8, none⟩ w.heap.size _ (by simpa using JI), adf _ ⟨w3.heap.size, 7, none⟩ w.heap.size _ (by simpa using JI), adf _ ⟨w3.heap.size, 6, none⟩ w.heap.size _ (by simpa using JI)];exact Zd.out
 have v0 : V.cell? ⟨w3.heap.size, 0, none⟩ = some (.int .i64 n1) := acC V w3.heap.size 0 _ 84 (0, 0) BV;have m0 : V.cell? ⟨w.heap.size, 0, none⟩ = some (.int .i64 0) := acC V w.heap.size 0 _ 84 (0, 0) RV;have f0 : V.frozen? ⟨w.heap.size, 0, none⟩ = false := acI V w.heap.size 0 _ 84 RV;have v1 : V.cell? ⟨w3.heap.size, 1, none⟩ = some (.int .i64 n2) := acC V w3.heap.size 1 _ 84 (0, 0) BV;have m1 : V.cell? ⟨w.heap.size, 1, none⟩ = some (.int .i64 0) := acC V w.heap.size 1 _ 84 (0, 0) RV;have f1 : V.frozen? ⟨w.heap.size, 1, none⟩ = false := acI V w.heap.size 1 _ 84 RV;have v2 : V.cell? ⟨w3.heap.size, 2, none⟩ = some (.int .i64 n3) := acC V w3.heap.size 2 _ 84 (0, 0) BV;have m2 : V.cell? ⟨w.heap.size, 2, none⟩ = some (.int .i64 0) := acC V w.heap.size 2 _ 84 (0, 0) RV;have f2 : V.frozen? ⟨w.heap.size, 2, none⟩ = false := acI V w.heap.size 2 _ 84 RV;have v3 : V.cell? ⟨w3.heap.size, 3, none⟩ = some (.int .i64 n4) := acC V w3.heap.size 3 _ 84 (0, 0) BV;have m3 : V.cell? ⟨w.heap.size, 3, none⟩ = some (.int .i64 0) := acC V w.heap.size 3 _ 84 (0, 0) RV;have f3 : V.frozen? ⟨w.heap.size, 3, none⟩ = false := acI V w.heap.size 3 _ 84 RV;have v4 : V.cell? ⟨w3.heap.size, 4, none⟩ = some (.int .i64 n5) := acC V w3.heap.size 4 _ 84 (0, 0) BV;have m4 : V.cell? ⟨w.heap.size, 4, none⟩ = some (.int .i64 0) := acC V w.heap.size 4 _ 84 (0, 0) RV;have f4 : V.frozen? ⟨w.heap.size, 4, none⟩ = false := acI V w.heap.size 4 _ 84 RV;have v5 : V.cell? ⟨w3.heap.size, 5, none⟩ = some (.int .i64 n6) := acC V w3.heap.size 5 _ 84 (0, 0) BV;have m5 : V.cell? ⟨w.heap.size, 5, none⟩ = some (.int .i64 0) := acC V w.heap.size 5 _ 84 (0, 0) RV;have f5 : V.frozen? ⟨w.heap.size, 5, none⟩ = false := acI V w.heap.size 5 _ 84 RV;have v6 : V.cell? ⟨w3.heap.size, 6, none⟩ = some (.int .i64 n7) := acC V w3.heap.size 6 _ 84 (0, 0) BV;have m6 : V.cell? ⟨w.heap.size, 6, none⟩ = some (.int .i64 0) := acC V w.heap.size 6 _ 84 (0, 0) RV;have f6 : V.frozen? ⟨w.heap.size, 6, none⟩ = false := acI V w.heap.size 6 _ 84 RV;have v7 : V.cell? ⟨w3.heap.size, 7, none⟩ = some (.int .i64 n8) := acC V w3.heap.size 7 _ 84 (0, 0) BV;have m7 : V.cell? ⟨w.heap.size, 7, none⟩ = some (.int .i64 0) := acC V w.heap.size 7 _ 84 (0, 0) RV;have f7 : V.frozen? ⟨w.heap.size, 7, none⟩ = false := acI V w.heap.size 7 _ 84 RV;have v8 : V.cell? ⟨w3.heap.size, 8, none⟩ = some (.int .i64 n9) := acC V w3.heap.size 8 _ 84 (0, 0) BV;have m8 : V.cell? ⟨w.heap.size, 8, none⟩ = some (.int .i64 0) := acC V w.heap.size 8 _ 84 (0, 0) RV;have f8 : V.frozen? ⟨w.heap.size, 8, none⟩ = false := acI V w.heap.size 8 _ 84 RV;have v9 : V.cell? ⟨w3.heap.size, 9, none⟩ = some (.int .i64 n10) := acC V w3.heap.size 9 _ 84 (0, 0) BV;have m9 : V.cell? ⟨w.heap.size, 9, none⟩ = some (.int .i64 0) := acC V w.heap.size 9 _ 84 (0, 0) RV;have f9 : V.frozen? ⟨w.heap.size, 9, none⟩ = false := acI V w.heap.size 9 _ 84 RV;have v10 : V.cell? ⟨w3.heap.size, 10, none⟩ = some (.int .i64 n11) := acC V w3.heap.size 10 _ 84 (0, 0) BV;have m10 : V.cell? ⟨w.heap.size, 10, none⟩ = some (.int .i64 0) := acC V w.heap.size 10 _ 84 (0, 0) RV;have f10 : V.frozen? ⟨w.heap.size, 10, none⟩ = false := acI V w.heap.size 10 _ 84 RV;have RVH := af RV;clear RV BV;go_wp2;have Dw := YX V w.heap.size 84 _ _ _ _ _ _ _ _ _ _ _ (.int .i64 n1) (.int .i64 n2) (.int .i64 n3) (.int .i64 n4) (.int .i64 n5) (.int .i64 n6) (.int .i64 n7) (.int .i64 n8) (.int .i64 n9) (.int .i64 n10) (.int .i64 n11) RVH.out;have hS9 : Sc (((((((((((V.setCell ⟨w.heap.size, 0, none⟩ (.int .i64 n1)).setCell ⟨w.heap.size, 1, none⟩ (.int .i64 n2)).setCell ⟨w.heap.size, 2, none⟩ (.int .i64 n3)).setCell ⟨w.heap.size, 3, none⟩ (.int .i64 n4)).setCell ⟨w.heap.size, 4, none⟩ (.int .i64 n5)).setCell ⟨w.heap.size, 5, none⟩ (.int .i64 n6)).setCell ⟨w.heap.size, 6, none⟩ (.int .i64 n7)).setCell ⟨w.heap.size, 7, none⟩ (.int .i64 n8)).setCell ⟨w.heap.size, 8, none⟩ (.int .i64 n9)).setCell ⟨w.heap.size, 9, none⟩ (.int .i64 n10)).setCell ⟨w.heap.size, 10, none⟩ (.int .i64 n11)) g (.slice p n c) FB JH := (Sc.aW (Sc.aW (Sc.aW (Sc.aW (Sc.aW (Sc.aW (Sc.aW (Sc.aW (Sc.aW (Sc.aW (Sc.aW SV.out _ jD) _ jD) _ jD) _ jD) _ jD) _ jD) _ jD) _ jD) _ jD) _ jD) _ jD)
 have hG9 : w.grownBy (((((((((((V.setCell ⟨w.heap.size, 0, none⟩ (.int .i64 n1)).setCell ⟨w.heap.size, 1, none⟩ (.int .i64 n2)).setCell ⟨w.heap.size, 2, none⟩ (.int .i64 n3)).setCell ⟨w.heap.size, 3, none⟩ (.int .i64 n4)).setCell ⟨w.heap.size, 4, none⟩ (.int .i64 n5)).setCell ⟨w.heap.size, 5, none⟩ (.int .i64 n6)).setCell ⟨w.heap.size, 6, none⟩ (.int .i64 n7)).setCell ⟨w.heap.size, 7, none⟩ (.int .i64 n8)).setCell ⟨w.heap.size, 8, none⟩ (.int .i64 n9)).setCell ⟨w.heap.size, 9, none⟩ (.int .i64 n10)).setCell ⟨w.heap.size, 10, none⟩ (.int .i64 n11)) (some g) := (ah (ah (ah (ah (ah (ah (ah (ah (ah (ah (ah GV.out (acE _)) (acE _)) (acE _)) (acE _)) (acE _)) (acE _)) (acE _)) (acE _)) (acE _)) (acE _)) (acE _))
 obtain ⟨W9, CY⟩ : ∃ W9, (((((((((((V.setCell ⟨w.heap.size, 0, none⟩ (.int .i64 n1)).setCell ⟨w.heap.size, 1, none⟩ (.int .i64 n2)).setCell ⟨w.heap.size, 2, none⟩ (.int .i64 n3)).setCell ⟨w.heap.size, 3, none⟩ (.int .i64 n4)).setCell ⟨w.heap.size, 4, none⟩ (.int .i64 n5)).setCell ⟨w.heap.size, 5, none⟩ (.int .i64 n6)).setCell ⟨w.heap.size, 6, none⟩ (.int .i64 n7)).setCell ⟨w.heap.size, 7, none⟩ (.int .i64 n8)).setCell ⟨w.heap.size, 8, none⟩ (.int .i64 n9)).setCell ⟨w.heap.size, 9, none⟩ (.int .i64 n10)).setCell ⟨w.heap.size, 10, none⟩ (.int .i64 n11)) = W9 := ⟨_, rfl⟩
 rw [CY] at Dw hS9 hG9 ⊢;clear CY;have n0_ : W9.cell? ⟨w.heap.size, 0, none⟩ = some (.int .i64 n1) := acC W9 w.heap.size 0 _ 84 (0, 0) Dw;have n1_ : W9.cell? ⟨w.heap.size, 1, none⟩ = some (.int .i64 n2) := acC W9 w.heap.size 1 _ 84 (0, 0) Dw;have n2_ : W9.cell? ⟨w.heap.size, 2, none⟩ = some (.int .i64 n3) := acC W9 w.heap.size 2 _ 84 (0, 0) Dw;have n3_ : W9.cell? ⟨w.heap.size, 3, none⟩ = some (.int .i64 n4) := acC W9 w.heap.size 3 _ 84 (0, 0) Dw;have n4_ : W9.cell? ⟨w.heap.size, 4, none⟩ = some (.int .i64 n5) := acC W9 w.heap.size 4 _ 84 (0, 0) Dw;have n5_ : W9.cell? ⟨w.heap.size, 5, none⟩ = some (.int .i64 n6) := acC W9 w.heap.size 5 _ 84 (0, 0) Dw;have n6_ : W9.cell? ⟨w.heap.size, 6, none⟩ = some (.int .i64 n7) := acC W9 w.heap.size 6 _ 84 (0, 0) Dw;have n7_ : W9.cell? ⟨w.heap.size, 7, none⟩ = some (.int .i64 n8) := acC W9 w.heap.size 7 _ 84 (0, 0) Dw;have n8_ : W9.cell? ⟨w.heap.size, 8, none⟩ = some (.int .i64 n9) := acC W9 w.heap.size 8 _ 84 (0, 0) Dw;have n9_ : W9.cell? ⟨w.heap.size, 9, none⟩ = some (.int .i64 n10) := acC W9 w.heap.size 9 _ 84 (0, 0) Dw;have abM : W9.cell? ⟨w.heap.size, 10, none⟩ = some (.int .i64 n11) := acC W9 w.heap.size 10 _ 84 (0, 0) Dw;have kQ : w.heap.size < W9.heap.size := lt_of_cell n0_;clear Dw;refine ac0 (v := .agg #[.int .i64 n1, .int .i64 n2, .int .i64 n3, .int .i64 n4, .int .i64 n5, .int .i64 n6, .int .i64 n7, .int .i64 n8, .int .i64 n9, .int .i64 n10, .int .i64 n11]) (by simp [results, results162, go_sem, n0_, n1_, n2_, n3_, n4_, n5_, n6_, n7_, n8_, n9_, abM, kQ]) rfl ⟨rfl, hS9, hG9⟩
def Nl (w : World) : Option (List St) → Ending → World → Prop
 | some L, e, w' => e = .returned (.tuple #[.pointer (some ⟨w.heap.size + 1, 0, none⟩), .int .i64 0]) ∧ jz w (w.heap.size + 1) w.heap.size w' L
 | none, e, w' => e = .returned (.tuple #[.pointer none, .int .i64 83]) ∧ Below w.heap.size w w'
theorem jz.grown {w0 w w' : World} {g b k : Nat} {L : List St} (h : jz w0 g b w L) (hg : w.grownBy w' (some k)) (h1 : k ≠ g) (h2 : k ≠ b) (hk : w0.heap.size ≤ k) : jz w0 g b w' L :=
 have hc : ak w w' (fun j => j = k) := ak.aV hg _ (fun j e => by injection e with e; exact .inl e.symm)
 ⟨h.tb.aU hc (fun e => h1 e.symm) (fun e => h2 e.symm), h.gl, h.bl, ak.aZ h.below hc (fun j e => by rw [e]; exact hk)⟩
theorem y_ {w : World} {p : Option Addr} {n c : Nat} {l : List UInt8} (hv : By w (.slice p n c) l) (hl : l.length ≤ 1100000) : Calls prog 124 #[.slice p n c] w (Nl w (loadT l)) := by
 have HV := af hv;clear hv;go_enter func124, ntmps124
 go_wp2_with fail
 refine (ru w).mono ?_;rintro e w1 ⟨rfl, h1, aK⟩;have T1 := af (jz.new h1 aK);have BV1 := af (HV.out.below aK);have eL := af (show w.heap.size + 1 < w1.heap.size from h1.gl);obtain ⟨gt, JX⟩ : ∃ gt, w.heap.size + 1 = gt := ⟨_, rfl⟩
 obtain ⟨bt, bG⟩ : ∃ bt, w.heap.size = bt := ⟨_, rfl⟩
 have T1' : Hid (jz w gt bt w1 []) := af (by rw [← bG, ← JX]; exact T1.out);rw [JX];have HG := af (acD JX bG);clear T1 JX bG h1 aK;go_wp2_with fail
 refine (je BV1.out (by omega)).mono ?_;rintro e w2 ⟨g, u, rfl, eQ, hS2, hO2, MU, aP⟩;obtain ⟨pu, nu, cu, rfl⟩ := hO2.bp.sl;have T2 := af (T1'.out.vP aP);have S2 := af hS2;have Y2 := af hO2.bp;have Ze : g ≠ gt := by have := HG.out.1; have := eL.out; omega
 have UM : g ≠ bt := by have := HG.out.2; have := eL.out; omega
 have jD : w.heap.size ≤ g := by have := eL.out; omega
 have HNG := af MU;have AF : Hid (l = [] ∨ ∀ k, (Value.slice pu nu cu).ownBlock = some k → some bt ≠ some k) := af (by
  rcases hO2 with ⟨_, e⟩ | ⟨gg, cap, e, hB, _⟩
  ·exact .inl e
  ·refine .inr fun k hk e2 => ?_;injection e2 with e2;rw [e] at hk;simp [Value.ownBlock] at hk;have := HG.out.2;have := eL.out;omega)
 clear hS2 hO2 MU aP eQ;obtain ⟨N, a0, E0, h0⟩ : ∃ n a E, nx l (0, 0) = (n, a, E) := ⟨_, _, _, rfl⟩
 have hN : AB l = N := by unfold AB; rw [h0]
 have TU : (N : Int) ≤ 9223372036854775807 := by have := Ni l; rw [hN] at this; omega
 have Zf : wU l 0 = some ([], a0, E0) := by unfold wU; rw [h0]
 have k1 := af (ay S2.out Y2.out (adq _) (N := N) (A := a0) (E := E0) h0);have HN := af hN;have abN := af Zf;clear hN Zf h0;go_wp2_with fail
 refine k1.out.mono ?_;rintro e w3 ⟨rfl, jH, fE⟩;have T3 := af (T2.out.grown fE Ze UM jD);have S3 := af jH;have Y3 := af (Y2.out.grown fE HNG.out);clear jH fE k1;go_wp2;go_loopw [12] (fun i wr => ∃ (k : Nat) (L : List St) (st : Nat × Nat), k ≤ N ∧ i = .int .i64 k ∧ Hid (wU l k = some (L, st) ∧ jz w gt bt wr L ∧ Sc wr g (.slice pu nu cu) st.1 st.2 ∧ By wr (.slice pu nu cu) l)) (fun i _ => N - (intOf i).toNat)
 case atStart => exact ⟨0, [], (a0, E0), by omega, rfl, af ⟨abN.out, T3.out, S3.out, Y3.out⟩⟩
 case round =>
  obtain ⟨k, L, st, hk, rfl, HR⟩ := hrel;by_cases bd : k < N
  ·have hst := (qT HR.out.1).2;have nO := af (Ah HR.out.2.2.1 HR.out.2.2.2 HNG.out hst);obtain ⟨x, st', hx⟩ : ∃ x st', dV l st = (x, st') := ⟨_, _, rfl⟩
   have LM := af (pT HR.out.1);rw [hx] at nO LM;have P8 := (qT HR.out.1).1.len;clear hst hx;obtain ⟨s, q, a, ⟨e1, e2, e3, e4, e5, e6, e7, e8⟩⟩ := x;unfold nC at nO;dsimp only at nO LM;go_wp2_with fail
   refine nO.out.mono ?_;rintro e w5 ⟨rfl, lC, ik⟩;have T5 := af (HR.out.2.1.grown ik Ze UM jD);have S5 := af lC;have Y5 := af (HR.out.2.2.2.grown ik HNG.out);clear lC ik nO;obtain ⟨Y, hY⟩ : ∃ Y, w5.alloc (.cells #[.int .i64 s, .int .i64 q, .int .i64 a, .int .i64 e1, .int .i64 e2, .int .i64 e3, .int .i64 e4, .int .i64 e5, .int .i64 e6, .int .i64 e7, .int .i64 e8] 84) = Y := ⟨_, rfl⟩
   have fF : Below w5.heap.size w5 Y := by rw [← hY]; exact (acG _ _).alloc (acE _) _
   have df : ∀ i v, (mN (⟨s, q, a, ⟨e1, e2, e3, e4, e5, e6, e7, e8⟩⟩ : St))[i]? = some v → Y.cell? ⟨w5.heap.size, i, none⟩ = some v := fun i v hi => by
    rw [← hY, adX];unfold mN at hi
    simpa using hi
   have hzY : w5.heap.size < Y.heap.size := by rw [← hY]; simp
   have y0 : Y.cell? ⟨w5.heap.size, 0, none⟩ = some (.int .i64 s) := df 0 _ rfl;have y1 : Y.cell? ⟨w5.heap.size, 1, none⟩ = some (.int .i64 q) := df 1 _ rfl;have y2 : Y.cell? ⟨w5.heap.size, 2, none⟩ = some (.int .i64 a) := df 2 _ rfl;have y3 : Y.cell? ⟨w5.heap.size, 3, none⟩ = some (.int .i64 e1) := df 3 _ rfl;have y4 : Y.cell? ⟨w5.heap.size, 4, none⟩ = some (.int .i64 e2) := df 4 _ rfl;have y5 : Y.cell? ⟨w5.heap.size, 5, none⟩ = some (.int .i64 e3) := df 5 _ rfl;have y6 : Y.cell? ⟨w5.heap.size, 6, none⟩ = some (.int .i64 e4) := df 6 _ rfl;have y7 : Y.cell? ⟨w5.heap.size, 7, none⟩ = some (.int .i64 e5) := df 7 _ rfl;have y8 : Y.cell? ⟨w5.heap.size, 8, none⟩ = some (.int .i64 e6) := df 8 _ rfl;have y9 : Y.cell? ⟨w5.heap.size, 9, none⟩ = some (.int .i64 e7) := df 9 _ rfl;have y10 : Y.cell? ⟨w5.heap.size, 10, none⟩ = some (.int .i64 e8) := df 10 _ rfl;have TY := af (T5.out.vP fF);have SY := af (S5.out.below fF);have YY := af (Y5.out.below fF);have Ao := af df;clear df fF;cases aT : (⟨s, q, a, ⟨e1, e2, e3, e4, e5, e6, e7, e8⟩⟩ : St).ok
   ·have hst := fun w => km w (⟨s, q, a, ⟨e1, e2, e3, e4, e5, e6, e7, e8⟩⟩ : St);rw [aT] at hst;have lB : Hid (loadT l = none) := af (vh (i := k + 1) (LM.out.trans (acO (by rw [aT]; simp))) (by have := HN.out; omega));unfold nC at hst;dsimp only at hst;clear aT;go_wp2_with fail
    refine (hst _).mono ?_;rintro e w6 ⟨rfl, bK⟩;have T6 := af (TY.out.vP bK);clear bK hst;go_wp2;go_ret2
    rw [lB.out];exact ⟨by rfl, T6.out.below⟩
   ·have hst := fun w => km w (⟨s, q, a, ⟨e1, e2, e3, e4, e5, e6, e7, e8⟩⟩ : St);rw [aT] at hst;have Nz := (St.aO.1 aT).1;dsimp only at Nz;have fh := af aT;unfold nC at hst;dsimp only at hst;clear aT;by_cases h8 : (8 : Int) ≤ (L.length : Int)
    ·have lB : Hid (loadT l = none) := af (vh (i := k + 1) (LM.out.trans (acO (by simp; omega))) (by have := HN.out; omega));go_wp2_with fail
     refine (hst _).mono ?_;rintro e w6 ⟨rfl, bK⟩;have T6 := af (TY.out.vP bK);have c06 := T6.out.tb.c0;obtain ⟨D6, RN⟩ := T6.out.tb.map;have hlen := RN.map.len ael 3;rw [RN.rd.size] at hlen;clear bK hst RN;go_wp2;go_ret2
     rw [lB.out];exact ⟨by rfl, T6.out.below⟩
    ·have Zg : Hid (wU l (k + 1) = some (ig L (⟨s, q, a, ⟨e1, e2, e3, e4, e5, e6, e7, e8⟩⟩ : St), st')) := af (LM.out.trans (acW (by rw [fh.out]; simp; omega)));go_wp2_with fail
     refine (hst _).mono ?_;rintro e w6 ⟨rfl, bK⟩;have T6 := af (TY.out.vP bK);have S6 := af (SY.out.below bK);have Y6 := af (YY.out.below bK);have Dq : ∀ i v, (mN (⟨s, q, a, ⟨e1, e2, e3, e4, e5, e6, e7, e8⟩⟩ : St))[i]? = some v → w6.cell? ⟨w5.heap.size, i, none⟩ = some v := fun i v hi => (bK.cell (p := ⟨w5.heap.size, i, none⟩) hzY).trans (Ao.out i v hi);have x0 : w6.cell? ⟨w5.heap.size, 0, none⟩ = some (.int .i64 s) := Dq 0 _ rfl;have x1 : w6.cell? ⟨w5.heap.size, 1, none⟩ = some (.int .i64 q) := Dq 1 _ rfl;have x2 : w6.cell? ⟨w5.heap.size, 2, none⟩ = some (.int .i64 a) := Dq 2 _ rfl;have x3 : w6.cell? ⟨w5.heap.size, 3, none⟩ = some (.int .i64 e1) := Dq 3 _ rfl;have x4 : w6.cell? ⟨w5.heap.size, 4, none⟩ = some (.int .i64 e2) := Dq 4 _ rfl;have x5 : w6.cell? ⟨w5.heap.size, 5, none⟩ = some (.int .i64 e3) := Dq 5 _ rfl;have x6 : w6.cell? ⟨w5.heap.size, 6, none⟩ = some (.int .i64 e4) := Dq 6 _ rfl;have x7 : w6.cell? ⟨w5.heap.size, 7, none⟩ = some (.int .i64 e5) := Dq 7 _ rfl;have x8 : w6.cell? ⟨w5.heap.size, 8, none⟩ = some (.int .i64 e6) := Dq 8 _ rfl;have x9 : w6.cell? ⟨w5.heap.size, 9, none⟩ = some (.int .i64 e7) := Dq 9 _ rfl;have JD : w6.cell? ⟨w5.heap.size, 10, none⟩ = some (.int .i64 e8) := Dq 10 _ rfl;have c06 := T6.out.tb.c0;obtain ⟨D6, RN⟩ := T6.out.tb.map;have hlen := RN.map.len ael 3;rw [RN.rd.size] at hlen;have M7 : iN w6.drew bt L D6 := RN.drewN 1;obtain ⟨w7, D7, dB, qb, hm7⟩ := M7.store (x := (⟨s, q, a, ⟨e1, e2, e3, e4, e5, e6, e7, e8⟩⟩ : St)) (YQ (by dsimp only; omega) (by dsimp only; omega)) (by simp [maxLen]; omega);unfold nC at dB;dsimp only at dB;have H7 := af (acD qb hm7);have mS : Hid (dS (ig L (⟨s, q, a, ⟨e1, e2, e3, e4, e5, e6, e7, e8⟩⟩ : St))) := af ((qT Zg.out).1);clear bK hst RN M7 Dq qb hm7 y0 y1 y2 y3 y4 y5 y6 y7 y8 y9 y10;go_wp2;go_region
     all_goals
      have wR : ak w6 w7 (fun k => k = bt) := ((ak.refl w6 (fun k => k = bt)).drewN 1).trans (show ak w6.drew w7 (fun k => k = bt) from ak.aV H7.out.1 _ (fun k e => by injection e with e; exact .inl e.symm)) fun k hk => .inl hk;have T7 := af (T6.out.tab (T6.out.tb.yo wR H7.out.2 mS.out) wR);have S7 := af (S6.out.aU wR (fun e => UM e));have Y7 := af ((show By w6.drew (.slice pu nu cu) l from Y6.out).grown H7.out.1 AF.out);clear wR dB;go_wp2;go_roundw;case rel => exact ⟨k + 1, _, st', by omega, by go_num, af ⟨Zg.out, T7.out, S7.out, Y7.out⟩⟩
      case measure => simp [intOf]; omega
  ·obtain rfl : k = N := by omega
   have hof := vd (HN.out ▸ HR.out.1);have TR := af HR.out.2.1;have BVR := af (HV.out.below TR.out.below);have QL := af hof;clear hof;go_wp2_with fail
   refine (nT TR.out.tb).mono ?_;rintro e w5 ⟨v5, rfl, bP, aL⟩;obtain ⟨p5, n5, c5, rfl⟩ := bP.bp.sl;have T5 := af (TR.out.vP aL);have HE := af (iO bP.bp (BVR.out.below aL));clear bP aL;by_cases hq : dN L = l
   ·have heq : (dN L == l) = true := by rw [hq]; simp
    rw [heq] at HE;have cY := af (QL.out.trans (acW hq));clear hq heq;go_wp2_with fail
    refine HE.out.mono ?_;rintro e w6 ⟨rfl, rfl⟩;go_wp2;go_ret2
    rw [cY.out];have ht := T5.out;rw [← HG.out.1, ← HG.out.2] at ht;exact ⟨by rw [HG.out.1]; rfl, ht⟩
   ·have heq : (dN L == l) = false := by simpa using hq
    rw [heq] at HE;have cY := af (QL.out.trans (acO hq));clear hq heq;go_wp2_with fail
    refine HE.out.mono ?_;rintro e w6 ⟨rfl, rfl⟩;go_wp2;go_ret2
    rw [cY.out];exact ⟨by rfl, T5.out.below⟩
end Go.Proofs.YtionbmlicmibgaaGreatDoor
