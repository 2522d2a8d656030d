import Derived.Test.YtionbmlicmibgaaGreatDoorS8
set_option linter.unusedVariables false
set_option linter.unusedSimpArgs false
namespace Go.Proofs.YtionbmlicmibgaaGreatDoor
open Go.Proofs.Tryz
set_option maxRecDepth 200000
set_option maxHeartbeats 4000000
open Go.RowKit
def fS (l : List Int) : List UInt8 := (l.map fun z => digits z.toNat).flatten
theorem uQ {l : List Int} {k : Nat} {z : Int} (h : l[k]? = some z) : fS (l.take (k + 1)) = fS (l.take k) ++ digits z.toNat := by
 unfold fS;rw [ac5, h];simp
theorem nB (l : List Int) (h : ∀ z ∈ l, z ≤ 1099511627776) (k : Nat) : (fS (l.take k)).length ≤ 9 * l.length := by
 have one : ∀ m : List Int, (∀ z ∈ m, z ≤ 1099511627776) → (fS m).length ≤ 9 * m.length := by
  intro m
  induction m with
  | nil => intro _; simp [fS]
  | cons x r ih =>
   intro hm;have := ih fun z hz => hm z (by simp [hz]);have h1 := digits_length x.toNat (by have := hm x (by simp); omega);simp only [fS, ad7, aej, acH, acZ] at this ⊢;omega
 have := one (l.take k) fun z hz => h z (adD hz);rw [ac6] at this;omega
theorem gP {w : World} {v : Value} {l : List UInt8} (hv : By w v l) (hl : l.length ≤ 140737488000000) (n : Int) (N : Nat) (hN : max n 0 = (N : Int)) (sG : N < lim) :
  Calls prog 56 #[v, .int .i64 n] w fun e w' => ∃ v', e = .returned v' ∧ Own w.heap.size w' v' (l ++ digits N) ∧ Below w.heap.size w w' :=
 (gQ hv hl n N hN sG).mono fun _ _ ⟨v', he, ho, hb⟩ => ⟨v', he, Own.iX ho, hb⟩
theorem Sp.Ok.nums {t i p s e : Int} {n : ByteArray} (h : Sp.Ok ⟨t, i, p, s, e, n⟩) : ∀ z ∈ [t, i, p, s, e - s], 0 ≤ z ∧ z ≤ 1099511627776 := by
 obtain ⟨t1, t2, i1, i2, p1, p2, s1, s2, e2, _, _, _, _⟩ := h;dsimp only at *;intro z hz;simp only [ac9, ad_, afd] at hz;rcases hz with rfl | rfl | rfl | rfl | rfl <;> omega
theorem CQ (x : Sp) (aT : x.ok = true) (w : World) : Calls prog 101 #[dZ x] w fun e w' => ∃ v', e = .returned v' ∧ Own w.heap.size w' v' x.bytes ∧ Below w.heap.size w w' := by
 have hk := (Sp.aO x).1 aT;obtain ⟨t, i, p, s, e, n⟩ := x;have hz := hk.nums;have gZ : Sp.bytes ⟨t, i, p, s, e, n⟩ = fS [t, i, p, s, e - s] ++ digits n.size ++ n.data.toList := by
  have hl : n.data.toList.length = n.size := by rw [ad4]; rfl
  unfold Sp.bytes fS Sp.nl;simp [hl]
 have KW : n.size ≤ 32 := by
  have := hk.n2;have hl : n.data.toList.length = n.size := by rw [ad4]; rfl
  have h2 : n.data.toList.length ≤ 32 := this;omega
 rw [gZ];have dR := hk.s1;have eF := hk.s2;have My : e ≤ 9223372036854775807 := Int.le_trans hk.e2 (by decide);have ZG : e - s ≤ 9223372036854775807 := by dsimp only at dR; omega
 have abD : 0 ≤ e - s := by dsimp only at eF; omega
 have BO : IntKind.i64.wrap (e - s) = e - s := by rw [aeE]; omega
 have HZ := af hz;clear hk aT hz gZ;unfold dZ;dsimp only at *;obtain ⟨X, hX⟩ : ∃ X, (w.alloc (.cells #[.int .i64 t, .int .i64 i, .int .i64 p, .int .i64 s, .int .i64 e, .string n] 30)).alloc (.cells #[.int .i64 t, .int .i64 i, .int .i64 p, .int .i64 s, .int .i64 (e - s)] 3) = X := ⟨_, rfl⟩
 have M9 : ∀ (k : Nat) z, [t, i, p, s, e - s][k]? = some z → X.cell? ⟨w.heap.size + 1, k, none⟩ = some (.int .i64 z) := by
  rw [← hX];intro k z hk;rw [acC _ (w.heap.size + 1) k _ 3 (0, 0) (by have := acQ (w.alloc (.cells #[.int .i64 t, .int .i64 i, .int .i64 p, .int .i64 s, .int .i64 e, .string n] 30)) (.cells #[.int .i64 t, .int .i64 i, .int .i64 p, .int .i64 s, .int .i64 (e - s)] 3); simpa using this)]
  match k, hk with
  | 0, hk => simp at hk; subst hk; rfl
  | 1, hk => simp at hk; subst hk; rfl
  | 2, hk => simp at hk; subst hk; rfl
  | 3, hk => simp at hk; subst hk; rfl
  | 4, hk => simp at hk; subst hk; rfl
 have nY : X.cell? ⟨w.heap.size, 5, none⟩ = some (.string n) := by
  rw [← hX];have := (az w ⟨t, i, p, s, e, n⟩).c5;exact ((acG _ _).alloc (acE _) _).cell (lt_of_cell this) |>.trans this
 have Ca : Below w.heap.size w X := by rw [← hX]; exact ((acG _ _).alloc (acE _) _).alloc (by simp) _
 have BN : X.heap.size = w.heap.size + 2 := by rw [← hX]; simp
 have HL := af M9;have Dc := af nY;have NL := af Ca;have il := af BN;clear M9 nY Ca BN;go_enter func101, ntmps101
 go_wp2_with fail
 clear hX BO;go_loopw [3, 5, 21] (fun v _ c wr => ∃ k : Nat, k ≤ 5 ∧ c = .int .i64 k ∧ Hid (Own X.heap.size wr v (fS ([t, i, p, s, e - s].take k)) ∧ Below X.heap.size X wr)) (fun _ _ c _ => 5 - (intOf c).toNat)
 case atStart => exact ⟨0, by omega, rfl, af ⟨Own.nil _ _, acG _ _⟩⟩
 case round =>
  obtain ⟨k, hk, rfl, HR⟩ := hrel;by_cases bd : (k : Int) < 5
  ·obtain ⟨z, hz⟩ : ∃ z, [t, i, p, s, e - s][k]? = some z := ⟨_, acF (by simp; omega)⟩
   have fD := HZ.out z (acS hz);have hcell := HL.out k z hz;have hcell := (HR.out.2.cell (lt_of_cell hcell)).trans hcell;have Rk := af fD;have Tn := af hz;have hle : (fS ([t, i, p, s, e - s].take k)).length ≤ 45 := nB [t, i, p, s, e - s] (by intro y hy; exact (HZ.out y hy).2) k;have Fo := af hle;clear hz fD hle;go_wp2_with fail
   refine (bh (HR.out.1.bp) (by have := Fo.out; omega) z z.toNat (by have := Rk.out.1; omega) (by have := Rk.out; unfold lim; omega)).mono ?_;rintro e1 w1 ⟨v1, rfl, ho, hb⟩;have Kz : Hid (Own X.heap.size w1 v1 (fS ([t, i, p, s, e - s].take (k + 1))) ∧ Below X.heap.size X w1) := af ⟨by rw [uQ Tn.out]; exact ho.mono HR.out.2.size, HR.out.2.trans (hb.mono HR.out.2.size)⟩;clear ho hb hcell;go_wp2;go_roundw;case rel => exact ⟨k + 1, by omega, by go_num, Kz⟩
   case measure => simp [intOf]; omega
  ·obtain rfl : k = 5 := by omega
   have hcell := (HR.out.2.cell (lt_of_cell Dc.out)).trans Dc.out;have hle : (fS ([t, i, p, s, e - s].take 5)).length ≤ 45 := nB [t, i, p, s, e - s] (by intro y hy; exact (HZ.out y hy).2) 5;have Fo := af hle;clear hle;go_wp2_with fail
   refine (fK (HR.out.1.bp) (by have := Fo.out; omega) n (by omega)).mono ?_;rintro e1 w1 ⟨v1, rfl, ho, hb⟩;have HO := af ho;have HB := af hb;clear ho hb hcell;go_wp2;go_ret;have kt := HR.out.2.size;have hxs := il.out;exact ⟨_, rfl, HO.out.mono (by omega), (NL.out.trans (HR.out.2.mono (by omega))).trans (HB.out.mono (by omega))⟩
theorem zC (x : Sp) (aT : x.ok = true) (w : World) : Calls prog 103 #[dZ x] w fun e w' => ∃ v', e = .returned v' ∧ Own w.heap.size w' v' x.bytes ∧ Below w.heap.size w w' := by
 have hk := (Sp.aO x).1 aT;obtain ⟨t, i, p, s, e, n⟩ := x;have hz := hk.nums;have gZ : Sp.bytes ⟨t, i, p, s, e, n⟩ = fS [t, i, p, s, e - s] ++ digits n.size ++ n.data.toList := by
  have hl : n.data.toList.length = n.size := by rw [ad4]; rfl
  unfold Sp.bytes fS Sp.nl;simp [hl]
 have KW : n.size ≤ 32 := by
  have := hk.n2;have hl : n.data.toList.length = n.size := by rw [ad4]; rfl
  have h2 : n.data.toList.length ≤ 32 := this;omega
 rw [gZ];have dR := hk.s1;have eF := hk.s2;have My : e ≤ 9223372036854775807 := Int.le_trans hk.e2 (by decide);have ZG : e - s ≤ 9223372036854775807 := by dsimp only at dR; omega
 have abD : 0 ≤ e - s := by dsimp only at eF; omega
 have BO : IntKind.i64.wrap (e - s) = e - s := by rw [aeE]; omega
 have HZ := af hz;clear hk aT hz gZ;unfold dZ;dsimp only at *;obtain ⟨X, hX⟩ : ∃ X, (w.alloc (.cells #[.int .i64 t, .int .i64 i, .int .i64 p, .int .i64 s, .int .i64 e, .string n] 30)).alloc (.cells #[.int .i64 t, .int .i64 i, .int .i64 p, .int .i64 s, .int .i64 (e - s)] 3) = X := ⟨_, rfl⟩
 have M9 : ∀ (k : Nat) z, [t, i, p, s, e - s][k]? = some z → X.cell? ⟨w.heap.size + 1, k, none⟩ = some (.int .i64 z) := by
  rw [← hX];intro k z hk;rw [acC _ (w.heap.size + 1) k _ 3 (0, 0) (by have := acQ (w.alloc (.cells #[.int .i64 t, .int .i64 i, .int .i64 p, .int .i64 s, .int .i64 e, .string n] 30)) (.cells #[.int .i64 t, .int .i64 i, .int .i64 p, .int .i64 s, .int .i64 (e - s)] 3); simpa using this)]
  match k, hk with
  | 0, hk => simp at hk; subst hk; rfl
  | 1, hk => simp at hk; subst hk; rfl
  | 2, hk => simp at hk; subst hk; rfl
  | 3, hk => simp at hk; subst hk; rfl
  | 4, hk => simp at hk; subst hk; rfl
 have nY : X.cell? ⟨w.heap.size, 5, none⟩ = some (.string n) := by
  rw [← hX];have := (az w ⟨t, i, p, s, e, n⟩).c5;exact ((acG _ _).alloc (acE _) _).cell (lt_of_cell this) |>.trans this
 have Ca : Below w.heap.size w X := by rw [← hX]; exact ((acG _ _).alloc (acE _) _).alloc (by simp) _
 have BN : X.heap.size = w.heap.size + 2 := by rw [← hX]; simp
 have HL := af M9;have Dc := af nY;have NL := af Ca;have il := af BN;clear M9 nY Ca BN;go_enter func103, ntmps103
 go_wp2_with fail
 clear hX BO;go_loopw [3, 5, 21] (fun v _ c wr => ∃ k : Nat, k ≤ 5 ∧ c = .int .i64 k ∧ Hid (Own X.heap.size wr v (fS ([t, i, p, s, e - s].take k)) ∧ Below X.heap.size X wr)) (fun _ _ c _ => 5 - (intOf c).toNat)
 case atStart => exact ⟨0, by omega, rfl, af ⟨Own.nil _ _, acG _ _⟩⟩
 case round =>
  obtain ⟨k, hk, rfl, HR⟩ := hrel;by_cases bd : (k : Int) < 5
  ·obtain ⟨z, hz⟩ : ∃ z, [t, i, p, s, e - s][k]? = some z := ⟨_, acF (by simp; omega)⟩
   have fD := HZ.out z (acS hz);have hcell := HL.out k z hz;have hcell := (HR.out.2.cell (lt_of_cell hcell)).trans hcell;have Rk := af fD;have Tn := af hz;have hle : (fS ([t, i, p, s, e - s].take k)).length ≤ 45 := nB [t, i, p, s, e - s] (by intro y hy; exact (HZ.out y hy).2) k;have Fo := af hle;clear hz fD hle;go_wp2_with fail
   refine (gP (HR.out.1.bp) (by have := Fo.out; omega) z z.toNat (by have := Rk.out.1; omega) (by have := Rk.out; unfold lim; omega)).mono ?_;rintro e1 w1 ⟨v1, rfl, ho, hb⟩;have Kz : Hid (Own X.heap.size w1 v1 (fS ([t, i, p, s, e - s].take (k + 1))) ∧ Below X.heap.size X w1) := af ⟨by rw [uQ Tn.out]; exact ho.mono HR.out.2.size, HR.out.2.trans (hb.mono HR.out.2.size)⟩;clear ho hb hcell;go_wp2;go_roundw;case rel => exact ⟨k + 1, by omega, by go_num, Kz⟩
   case measure => simp [intOf]; omega
  ·obtain rfl : k = 5 := by omega
   have hcell := (HR.out.2.cell (lt_of_cell Dc.out)).trans Dc.out;have hle : (fS ([t, i, p, s, e - s].take 5)).length ≤ 45 := nB [t, i, p, s, e - s] (by intro y hy; exact (HZ.out y hy).2) 5;have Fo := af hle;clear hle;go_wp2_with fail
   refine (jP (HR.out.1.bp) (by have := Fo.out; omega) n (by omega)).mono ?_;rintro e1 w1 ⟨v1, rfl, ho, hb⟩;have HO := af ho;have HB := af hb;clear ho hb hcell;go_wp2;go_ret;have kt := HR.out.2.size;have hxs := il.out;exact ⟨_, rfl, HO.out.mono (by omega), (NL.out.trans (HR.out.2.mono (by omega))).trans (HB.out.mono (by omega))⟩
def Apart (w : World) (v u : Value) (l : List UInt8) : Prop := l = [] ∨ ∀ k, u.ownBlock = some k → v.ownBlock ≠ some k ∧ k < w.heap.size
def jL (B : Nat) (w : World) (v : Value) (xs : List (List UInt8)) : Prop :=
 ∃ us : List Value, us.length = xs.length ∧ w.ownsRow B 32 1 v xs.length us ∧ ∀ (i : Nat) u x, us[i]? = some u → xs[i]? = some x → By w u x ∧ Apart w v u x ∧ u.oneCell' = true
theorem jL.below {B : Nat} {w w' : World} {v : Value} {xs : List (List UInt8)} (h : jL B w v xs) (hb : Below w.heap.size w w') : jL B w' v xs := by
 obtain ⟨us, hl, ho, hu⟩ := h;refine ⟨us, hl, mV ho hb, fun i u x h1 h2 => ?_⟩;obtain ⟨g1, g2, g3⟩ := hu i u x h1 h2;refine ⟨g1.below hb, ?_, g3⟩;rcases g2 with g2 | g2
 ·exact .inl g2
 ·exact .inr fun k hk => ⟨(g2 k hk).1, acV (g2 k hk).2 hb.size⟩
theorem jL.bss {B : Nat} {w : World} {v : Value} {xs : List (List UInt8)} (h : jL B w v xs) : wG w v xs := by
 obtain ⟨us, hl, ho, hu⟩ := h;rcases ho.2 with ⟨rfl, h0⟩ | ⟨g, cap, cur, rfl, hB, hg, wV, hm, hs, ht⟩
 ·obtain rfl : xs = [] := acP h0;exact wG.nil w
 ·refine wG.BA (o := 0) rfl wV hm hl (fun i u hi => ?_) fun i u x h1 h2 => (hu i u x h1 h2).1;have := ho.cells (g := g) rfl i u hi
  rwa [bq] at this
theorem Tryz.info32 : (Tryz.prog.info? 32).map (fun i => (i.zero, i.size, i.bytes)) = some (some (.slice none 0 0), 1, 24) := by kernel_rfl
theorem uR {B : Nat} {w : World} {v : Value} {xs : List (List UInt8)} (h : jL B w v xs) {q : Option Addr} {m c : Nat} {x : List UInt8} (hx : By w (.slice q m c) x) (JA : Apart w v (.slice q m c) x) (hB : B ≤ w.heap.size) (hs : xs.length ≤ 1100000) :
  ∃ v' w', (Builtin.append_ #[155, 155] 155 #[v, .slice (some ⟨w.heap.size, 0, none⟩) 1 1]).run prog (w.alloc (.cells #[.slice q m c] 32)) = .ok v' w' ∧ jL B w' v' (xs ++ [x]) ∧ Below B w w' := by
 obtain ⟨us, hl, ho, hu⟩ := h;obtain ⟨i0, eV, gu, fC, fD⟩ := adM Tryz.info32;have bd := ho.lt;have xC := ho.alloc (.cells #[.slice q m c] 32);obtain ⟨v', w', hr, h1, h2, _, h4⟩ := adK (P := prog) (w.alloc (.cells #[.slice q m c] 32)) B 155 155 32 i0 (.slice none 0 0) 1 24 underlying155 eV gu fC fD rfl (by decide) v xs.length us xC ⟨w.heap.size, 0, none⟩ 1 1 [.slice q m c] rfl
  (iQ _ _ _) (fun u hu => by simp at hu; subst hu; rfl) (by simp only [maxLen]; omega) (by omega) (by simp; omega)
 have fA : Below B w (w.alloc (.cells #[.slice q m c] 32)) := (acG _ _).alloc hB _;refine ⟨v', w', hr, ⟨us ++ [.slice q m c], by simp [hl], by simpa using h1, fun i u y hi hy => ?_⟩, fA.grown h2 (by simp; omega) fun k hk => (ho.lt k hk).1⟩;have key : ∀ (u : Value) (y : List UInt8), By w u y → Apart w v u y → By w' u y ∧ Apart w' v' u y := fun u y hb ha => by
  refine ⟨(hb.alloc _).grown h2 ?_, ?_⟩
  ·rcases ha with rfl | ha
   ·exact .inl rfl
   ·exact .inr fun k hk => (ha k hk).1
  ·rcases ha with rfl | ha
   ·exact .inl rfl
   ·refine .inr fun k hk => ⟨?_, ?_⟩
    ·obtain ⟨n1, n2⟩ := ha k hk;rcases h4 with e | e
     ·rw [e];exact n1
     ·rw [e];intro e2;injection e2 with e2;rw [rC] at e2;omega
    ·have := h2.size;rw [rC] at this;have := (ha k hk).2;omega
 by_cases Ix : i < us.length
 ·rw [aea Ix] at hi;rw [aea (by omega)] at hy;obtain ⟨g1, g2, g3⟩ := hu i u y hi hy;obtain ⟨k1, k2⟩ := key u y g1 g2;exact ⟨k1, k2, g3⟩
 ·have sy : i = us.length := by
   have := (acL.1 hi).1;simp at this;omega
  subst sy;rw [ad6 (acE _), afa] at hi;rw [hl, ad6 (acE _), afa] at hy;simp at hi hy;subst hi hy;obtain ⟨k1, k2⟩ := key _ _ hx JA;exact ⟨k1, k2, rfl⟩
theorem wS {w : World} {ops : Array Oper} {rest : List Oper} {o : Oper} {a : Act} {Q : Exit → Act → World → Prop} (kS : o.guard = none) (s t : Operand)
  (ho : o.op = .call { callee := .builtin .append, args := #[s, t], argTypes := #[155, 155] }) (hty : o.type = 155) {B : Nat} {v : Value} {xs : List (List UInt8)} {q : Option Addr} {m c : Nat} {x : List UInt8}
  (hs : a.eval s = v) (ht : a.eval t = .slice (some ⟨w.heap.size, 0, none⟩) 1 1) (h : jL B w v xs) (hx : By w (.slice q m c) x) (JA : Apart w v (.slice q m c) x) (hB : B ≤ w.heap.size) (hn : xs.length ≤ 1100000)
  (hK : ∀ v' w', jL B w' v' (xs ++ [x]) → Below B w w' → wpList prog ops Q rest (a.put o.dst v') w') : wpList prog ops Q (o :: rest) a (w.alloc (.cells #[.slice q m c] 32)) := by
 obtain ⟨v', w', hr, h1, h2⟩ := uR h hx JA hB hn;exact adC _ kS s t 155 ho v _ hs ht (by rw [hty]; exact hr) (hK v' w' h1 h2)
def nH (l : List Sp) : List UInt8 × Nat := if l.all Sp.ok then (cN l, 0) else ([], 30)
theorem jL.lit {B : Nat} {w : World} {q : Option Addr} {m c : Nat} {x : List UInt8} (hB : B ≤ w.heap.size) (hx : Own B w (.slice q m c) x) : jL B (w.alloc (.cells #[.slice q m c] 32)) (.slice (some ⟨w.heap.size, 0, none⟩) 1 1) [x] := by
 refine ⟨[.slice q m c], rfl, afi w #[.slice q m c] 1 hB (by decide) rfl, fun i u y h1 h2 => ?_⟩
 match i, h1, h2 with
 | 0, h1, h2 =>
  simp at h1 h2;subst h1 h2;refine ⟨hx.bp.alloc _, ?_, rfl⟩;rcases hx.Lu with h | h
  ·exact .inl h
  ·rcases hx with ⟨_, rfl⟩ | ⟨g, cap, e, _, _, _, hc, _⟩
   ·exact .inl rfl
   ·cases x with
    | nil => exact .inl rfl
    | cons y r =>
     refine .inr fun k hk => ⟨?_, ?_⟩
     ·have := h k hk;simp only [Value.ownBlock];exact this
     ·injection e with e1;subst e1;simp only [Value.ownBlock, adp] at hk;subst hk;have := lt_of_cell (hc 0 y rfl);simp;simp only at this;omega
theorem Apart.fO {B : Nat} {w w' : World} {v u : Value} {xs : List (List UInt8)} {x : List UInt8} (hG : jL B w v xs) (ho : Own w.heap.size w' u x) : Apart w' v u x := by
 rcases ho with ⟨e, rfl⟩ | ⟨g, cap, e, V8, hPl, hm, rX, eF, Qu⟩
 ·exact .inl rfl
 ·by_cases h0 : x = []
  ·exact .inl h0
  ·refine .inr fun j hj => ?_;subst e;simp only [Value.ownBlock, adp] at hj;subst hj;have hPp : 0 < x.length := adP.2 h0;refine ⟨fun h => ?_, lt_of_cell (rX 0 x[0] (acF hPp))⟩;obtain ⟨us, _, Wz, _⟩ := hG;have := (Wz.lt g h).2;omega
theorem pz {x : Sp} (h : x.ok = true) : x.bytes.length ≤ 100 := by
 have hk := (Sp.aO x).1 h;obtain ⟨t1, t2, i1, i2, p1, p2, s1, s2, e2, _, _, n2, _⟩ := hk;have q1 := digits_length x.t.toNat (by omega);have q2 := digits_length x.i.toNat (by omega);have q3 := digits_length x.p.toNat (by omega);have q4 := digits_length x.s.toNat (by omega);have q5 := digits_length (x.e - x.s).toNat (by omega);have q6 := digits_length x.nl.length (by omega);unfold Sp.bytes;simp only [acH];omega
theorem ng : ∀ {l : List Sp}, l.all Sp.ok = true → Lib.lens (l.map Sp.bytes) ≤ 100 * l.length
 | [], _ => by simp [Lib.lens]
 | x :: r, h => by
  rw [aeI, adb] at h;have h1 := pz h.1;have h2 := ng h.2;simp only [Lib.lens, ad7, List.sum_cons, acZ] at h2 ⊢;omega
theorem rz {w : World} {v : Value} {l : List Sp} (hv : iY w v l) (hl : l.length ≤ 100000) (im : ∀ x ∈ l, x.n.size ≤ 1100000) {B : List UInt8} {E : Nat} (hP : nH l = (B, E)) :
  Calls prog 53 #[v] w fun e w' => ∃ v', e = .returned (.tuple #[v', .int .i64 (E : Int)]) ∧ Own w.heap.size w' v' B ∧ Below w.heap.size w w' := by
 obtain ⟨p, n, c, rfl⟩ := hv.sl;obtain ⟨hn, Xh, kO⟩ := hv.len;have HV := af hv;have HN := af hn;have HP := af hP;have HM := af im;have zy : n ≤ 100000 := by omega
 clear hv hn hP im hl;go_enter func53, ntmps53
 go_wp2_with fail
 refine (bh (By.nil w) (by simp) n n (by omega) (by unfold lim; omega)).mono ?_;rintro e1 w1 ⟨v1, rfl, ho, hb⟩;rw [adE] at ho;obtain ⟨q1, m1, c1, rfl⟩ := ho.bp.sl;have hG := jL.lit (B := w.heap.size) hb.size ho;have HG := af hG;have HB := af (hb.alloc hb.size (.cells #[.slice q1 m1 c1] 32));clear hG hb ho;go_wp2_with fail
 obtain ⟨X, hX⟩ : ∃ X, w1.alloc (.cells #[.slice q1 m1 c1] 32) = X := ⟨_, rfl⟩
 rw [hX] at HG HB ⊢;have Yn := af (show w1.heap.size < X.heap.size by rw [← hX]; simp);clear hX;go_loopw [4, 6, 7, 14] (fun v _ _ c wr => ∃ k : Nat, k ≤ n ∧ c = .int .i64 k ∧ Hid (jL w.heap.size wr v (digits n :: (l.take k).map Sp.bytes) ∧ Below w.heap.size w wr ∧ (l.take k).all Sp.ok = true)) (fun _ _ _ c _ => n - (intOf c).toNat)
 case atStart => exact ⟨0, by omega, rfl, af ⟨HG.out, HB.out, rfl⟩⟩
 case round =>
  obtain ⟨k, hk, rfl, HR⟩ := hrel;by_cases bd : (k : Int) < (n : Int)
  ·obtain ⟨g, o, rfl, hx⟩ := HV.out.at_ (by omega);obtain ⟨x, dC⟩ : ∃ x, l[k]? = some x := ⟨_, acF (by have := HN.out; omega)⟩
   have aG := (hx k x dC).below (HR.out.2.1);obtain ⟨oo, iu⟩ : ∃ oo, o + k * 6 = oo := ⟨_, rfl⟩
   rw [iu] at aG;have c0 := aG.c0;have c1' := aG.c1;have c2 := aG.c2;have c3 := aG.c3;have c4 := aG.c4;have c5 := aG.c5;have OY := HM.out x (acS dC);have vl := af dC;have HAT := af aG;have qs := kq x OY;have jC := af qs;have dH := af (CQ x);clear hx dC aG qs;have bg := az wr x;have qw := af bg;have Xu : Below wr.heap.size wr (wr.alloc (.cells #[.int .i64 x.t, .int .i64 x.i, .int .i64 x.p, .int .i64 x.s, .int .i64 x.e, .string x.n] 30)) := (acG _ _).alloc (acE _) _;have Tv := af Xu;have NI : wr.heap.size < (wr.alloc (.cells #[.int .i64 x.t, .int .i64 x.i, .int .i64 x.p, .int .i64 x.s, .int .i64 x.e, .string x.n] 30)).heap.size := by simp
   have Xv := af NI;clear bg Xu NI;by_cases aT : x.ok = true
   ·have fh := af aT;obtain ⟨t, i, p, s, e, nm⟩ := x;dsimp only at *;unfold dZ at *;rw [acW aT] at jC;clear aT;go_wp2_with fail
    refine (jC.out _).mono ?_;rintro e2 w2 ⟨rfl, aP⟩;obtain ⟨d0, d1, d2, d3, d4, d5⟩ := (qw.out.below aP).z;dsimp only at d0 d1 d2 d3 d4 d5;have cE : Hid (Below wr.heap.size wr w2) := af (Tv.out.trans (aP.mono (afe Xv.out)));clear aP;go_wp2_with fail
    refine (dH.out fh.out _).mono ?_;rintro e3 w3 ⟨v3, rfl, kY, cF⟩;obtain ⟨q3, m3, c3, rfl⟩ := kY.bp.sl;have JA := Apart.fO HR.out.1 (kY.mono cE.out.size);have HAP := af JA;have wv := af (HR.out.1.below (cE.out.trans (cF.mono cE.out.size)));have fH := af (HR.out.2.1.trans ((cE.out.trans (cF.mono cE.out.size)).mono HR.out.2.1.size));have Xw := af kY.bp;have LB := fH.out.size;have EI : Hid ((l.take (k + 1)).all Sp.ok = true ∧ digits n :: (l.take (k + 1)).map Sp.bytes = (digits n :: (l.take k).map Sp.bytes) ++ [Sp.bytes ⟨t, i, p, s, e, nm⟩]) := af (by
     have h1 : l.take (k + 1) = l.take k ++ [⟨t, i, p, s, e, nm⟩] := by rw [ac5, vl.out]; rfl
     rw [h1, aeR, HR.out.2.2];refine ⟨?_, by simp⟩;simp only [aeI, List.all_nil, Bool.and_true, adY];exact fh.out)
    have sI : (digits n :: (l.take k).map Sp.bytes).length ≤ 1100000 := by
     simp only [acZ, adv, ac6];omega
    have yZ := af sI;clear JA kY cF d0 d1 d2 d3 d4 d5 sI;go_wp2_with (at_builtin; go_must (refine wS (v := u4) rfl _ _ rfl rfl rfl rfl wv.out Xw.out HAP.out LB yZ.out ?_); intro v4 w4 lz bY)
    go_roundw;case rel => exact ⟨k + 1, by omega, by go_num, af ⟨by rw [EI.out.2]; exact lz, fH.out.trans bY, EI.out.1⟩⟩
    case measure => simp [intOf]; omega
   ·have Tw : B = [] ∧ E = 30 := by
     have cO : l.all Sp.ok = false := by
      rw [adJ];intro h;exact aT (adl.1 h x (acS vl.out))
     have := HP.out;unfold nH at this;rw [cO] at this;simp only [Bool.false_eq_true, if_false, acT] at this;exact ⟨this.1.symm, this.2.symm⟩
    obtain ⟨rfl, rfl⟩ := Tw;obtain ⟨t, i, p, s, e, nm⟩ := x;dsimp only at *;unfold dZ at *;rw [acO aT] at jC;clear aT;go_wp2_with fail
    refine (jC.out _).mono ?_;rintro e2 w2 ⟨rfl, aP⟩;have cE : Hid (Below wr.heap.size wr w2) := af (Tv.out.trans (aP.mono (afe Xv.out)));clear aP;go_wp2;go_ret2
    exact ⟨_, rfl, Own.nil _ _, HR.out.2.1.trans (cE.out.mono HR.out.2.1.size)⟩
  ·have EJ : k = n := by omega
   subst EJ;have cO : l.all Sp.ok = true := by
    have := HR.out.2.2
    rwa [acY (by have := HN.out; omega)] at this
   have hG : jL w.heap.size wr u4 (digits k :: l.map Sp.bytes) := by
    have := HR.out.1
    rwa [acY (by have := HN.out; omega)] at this
   have Tw : B = (digits k :: l.map Sp.bytes).flatten ∧ E = 0 := by
    have := HP.out;unfold nH at this;rw [cO] at this;simp only [if_true, acT] at this;refine ⟨?_, this.2.symm⟩;rw [← this.1];unfold cN;rw [aej, HN.out]
   obtain ⟨rfl, rfl⟩ := Tw;have RF := ng (l := l) cO;have yw := digits_length k (by omega);have HJ := af (tH hG.bss (by simp only [Lib.lens, ad7, List.sum_cons] at RF ⊢; have := HN.out; omega) (by simp only [acZ, adv]; have := HN.out; omega));have mY := af HR.out.2.1;clear hG cO RF yw;go_wp2_with fail
   refine HJ.out.mono ?_;rintro e2 w2 ⟨v2, rfl, eX, aP⟩;have HO := af eX;have cE := af aP;clear eX aP;go_wp2;go_ret2
   exact ⟨_, rfl, HO.out.mono mY.out.size, mY.out.trans (cE.out.mono mY.out.size)⟩
theorem pw (l : List UInt8) : (str l).size = l.length := by rw [str_eq]; rfl
theorem BM (l : List UInt8) : (str l).data.toList = l := by rw [str_eq]
theorem fM {w w' : World} {B n z : Nat} {e : TypeId} {v : Value} {xs : List Value} {S : Nat → Prop} (h : w.ownsRow B e z v n xs) (hc : ak w w' S) (hS : ∀ k, v.ownBlock = some k → ¬ S k) : w'.ownsRow B e z v n xs := by
 rcases h with ⟨h0, ⟨rfl, h1⟩ | ⟨g, cap, cur, rfl, hB, hh, r⟩⟩
 ·exact ⟨h0, .inl ⟨rfl, h1⟩⟩
 ·exact ⟨h0, .inr ⟨g, cap, cur, rfl, hB, (hc.block g (acJ.1 hh).1 (hS g rfl)).trans hh, r⟩⟩
theorem ownsRow_kind {w : World} {B n z : Nat} {e : TypeId} {v : Value} {xs : List Value} (h : w.ownsRow B e z v n xs) {k : Nat} (hk : v.ownBlock = some k) : ∃ cur, w.heap[k]? = some (.cells cur e (0, 0)) := by
 rcases h with ⟨h0, ⟨rfl, h1⟩ | ⟨g, cap, cur, rfl, hB, hh, r⟩⟩
 ·cases hk
 ·injection hk with hk;subst hk;exact ⟨cur, hh⟩
theorem CS {w : World} {B n z B' n' z' : Nat} {e e' : TypeId} {v v' : Value} {xs xs' : List Value} (h : w.ownsRow B e z v n xs) (h' : w.ownsRow B' e' z' v' n' xs') (aN : e ≠ e') {k : Nat} (hk : v.ownBlock = some k) : v'.ownBlock ≠ some k := fun Au => by
 obtain ⟨c, h1⟩ := ownsRow_kind h hk;obtain ⟨c', h2⟩ := ownsRow_kind h' Au;rw [h1] at h2;injection h2 with h2;injection h2 with _ h2;exact aN h2
theorem CU {B : Nat} {w : World} {v : Value} {xs : List (List UInt8)} (h : jL B w v xs) {q : Option Addr} {m c : Nat} {x : List UInt8} (hx : By w (.slice q m c) x) (JA : Apart w v (.slice q m c) x) (hB : B ≤ w.heap.size) (hs : xs.length ≤ 1100000) :
  ∃ v' w', (Builtin.append_ #[155, 155] 155 #[v, .slice (some ⟨w.heap.size, 0, none⟩) 1 1]).run prog (w.alloc (.cells #[.slice q m c] 32)) = .ok v' w' ∧ jL B w' v' (xs ++ [x]) ∧ Below B w w' ∧ ak w w' fun k => v.ownBlock = some k := by
 obtain ⟨v', w', hr, h1, h2⟩ := uR h hx JA hB hs;obtain ⟨us, hl, ho, hu⟩ := h;obtain ⟨i0, eV, gu, fC, fD⟩ := adM Tryz.info32;have xC := ho.alloc (.cells #[.slice q m c] 32);obtain ⟨v2, w2, zh, _, hg, _, _⟩ := adK (P := prog) (w.alloc (.cells #[.slice q m c] 32)) B 155 155 32 i0 (.slice none 0 0) 1 24 underlying155 eV gu fC fD rfl (by decide) v xs.length us xC ⟨w.heap.size, 0, none⟩ 1 1 [.slice q m c] rfl
  (iQ _ _ _) (fun u hu => by simp at hu; subst hu; rfl) (by simp only [maxLen]; omega) (by omega) (by simp; omega)
 rw [hr] at zh;injection zh with e1 e2;subst e1 e2;exact ⟨v', w', hr, h1, h2, ((ak.refl w _).alloc _).trans (ak.aV hg (fun k => v.ownBlock = some k) fun k e => .inl e) fun k hk => .inl hk⟩
theorem uS {w : World} {ops : Array Oper} {rest : List Oper} {o : Oper} {a : Act} {Q : Exit → Act → World → Prop} (kS : o.guard = none) (s t : Operand)
  (ho : o.op = .call { callee := .builtin .append, args := #[s, t], argTypes := #[155, 155] }) (hty : o.type = 155) {B : Nat} {v : Value} {xs : List (List UInt8)} {q : Option Addr} {m c : Nat} {x : List UInt8}
  (hs : a.eval s = v) (ht : a.eval t = .slice (some ⟨w.heap.size, 0, none⟩) 1 1) (h : jL B w v xs) (hx : By w (.slice q m c) x) (JA : Apart w v (.slice q m c) x) (hB : B ≤ w.heap.size) (hn : xs.length ≤ 1100000)
  (hK : ∀ v' w', jL B w' v' (xs ++ [x]) → Below B w w' → ak w w' (fun k => v.ownBlock = some k) → wpList prog ops Q rest (a.put o.dst v') w') : wpList prog ops Q (o :: rest) a (w.alloc (.cells #[.slice q m c] 32)) := by
 obtain ⟨v', w', hr, h1, h2, h3⟩ := CU h hx JA hB hn;exact adC _ kS s t 155 ho v _ hs ht (by rw [hty]; exact hr) (hK v' w' h1 h2 h3)
theorem Fx {w w' : World} {B B' n : Nat} {u v : Value} {cs : List Value} {xs : List (List UInt8)} (h : w.ownsRow B 3 1 u n cs) (hG : jL B' w v xs) (hc : ak w w' fun k => v.ownBlock = some k) : w'.ownsRow B 3 1 u n cs := by
 obtain ⟨us, hl, ho, _⟩ := hG;exact fM h hc fun k hk => CS h ho (by decide) hk
theorem fL {B : Nat} {w : World} {v : Value} {n : Nat} {l : List Int} (h : w.ownsRow B 3 1 v n (l.map (Value.int .i64))) : ∃ p c, v = .slice p n c ∧ l.length = n ∧ n ≤ maxLen ∧ (0 < n → ∃ g, p = some ⟨g, 0, none⟩ ∧ g < w.heap.size ∧ ∀ (i : Nat) x, l[i]? = some x → w.cell? ⟨g, i, none⟩ = some (.int .i64 x)) := by
 have hn : l.length = n := by have := h.1; simpa using this
 rcases h.2 with ⟨rfl, rfl⟩ | ⟨g, cap, cur, rfl, hB, hg, hl, hm, hs, ht⟩
 ·exact ⟨none, 0, rfl, hn, by simp [maxLen], fun h => by omega⟩
 ·refine ⟨_, cap, rfl, hn, by omega, fun _ => ⟨g, rfl, (acJ.1 hg).1, fun i x hx => ?_⟩⟩;have := h.cells (g := g) rfl i (Value.int .i64 x) (by simp [hx])
  rwa [bq, ac2] at this
theorem iR {L : List Sp} {x : Sp} : x ∈ aQ L ↔ x ∈ L := (cG L).mem_iff
theorem py {t : Int} {L : List Sp} (h : dT t L) : (cN (aQ L)).length ≤ 7000 := by
 have cO : (aQ L).all Sp.ok = true := adl.2 fun x hx => (h.ok x (iR.1 hx)).1;have h1 := ng cO;have h2 := (cG L).length_eq;have h3 := h.len;have h4 := digits_length (aQ L).length (by omega);unfold cN;rw [acH, ae4];have h5 : (((aQ L).map Sp.bytes).map List.length).sum ≤ 100 * (aQ L).length := h1;omega
theorem F5 {t : Int} {L : List Sp} (h : dT t L) : nH (aQ L) = (cN (aQ L), 0) := by
 have cO : (aQ L).all Sp.ok = true := adl.2 fun x hx => (h.ok x (iR.1 hx)).1;unfold nH;rw [acW cO]
theorem Fy {y : Pl} (h : dT y.1 y.2) : (aX y).length ≤ 7010 := by
 have h1 := py h;have h2 := digits_length (cN (aQ y.2)).length (by omega);unfold aX;rw [acH];omega
theorem kv : ∀ {S : List Pl}, (∀ y ∈ S, dT y.1 y.2) → Lib.lens (S.map aX) ≤ 7010 * S.length
 | [], _ => by simp [Lib.lens]
 | y :: r, h => by
  have h1 := Fy (h y (ac8 ..));have h2 := kv (S := r) fun z hz => h z (ade _ hz);simp only [Lib.lens, ad7, List.sum_cons, acZ] at h2 ⊢;omega
theorem kx (S : List Pl) : br S = (digits S.length :: S.map aX).flatten := by
 unfold br;rw [aej, aeX]
def yU (w : World) (b : List UInt8) (e : Ending) (w' : World) : Prop := ∃ v, e = .returned v ∧ Own w.heap.size w' v b ∧ Below w.heap.size w w'
theorem sX {w : World} {gs bm : Nat} {R : List Tr} (h : bR w gs bm R) : Calls prog 125 #[.pointer (some ⟨gs, 0, none⟩)] w (yU w (br (R.map Tr.pl))) := by
 have HM := af (kL h.c0);have HH := af h;have P8 := h.len;clear h;obtain ⟨n, hn⟩ : ∃ n, R.length = n := ⟨_, rfl⟩
 rw [hn] at P8;have HN := af hn;go_enter func125, ntmps125
 go_wp2_with fail
 refine HM.out.mono ?_;rintro e X ⟨rfl, q, hq⟩;have kg : Below w.heap.size w X := by rw [hq]; exact ag w q
 clear hq;have hX := HH.out.below kg;have c0 := hX.c0;obtain ⟨D, hD⟩ := hX.map;have hlen := hD.map.len aeJ 3;rw [hD.rd.size, hn] at hlen;have HX := af hX;have qQ := af kg;clear hX hD kg hn;go_wp2_with fail
 refine (bh (By.nil X) (by simp) n n (by omega) (by unfold lim; omega)).mono ?_;rintro e1 w1 ⟨v1, rfl, ho, hb⟩;rw [adE] at ho;obtain ⟨q1, m1, c1, rfl⟩ := ho.bp.sl;have hG := jL.lit (B := X.heap.size) hb.size ho;have HG := af hG;have HB := af (hb.alloc hb.size (.cells #[.slice q1 m1 c1] 32));clear hG hb ho;go_wp2_with fail
 refine (ry (HX.out.below HB.out)).mono ?_;rintro e2 w2 ⟨v2, rfl, aM, aP⟩;rw [HN.out] at aM;obtain ⟨p2, c2, rfl, NT, jB, yI⟩ := fL aM;have rV := af (HG.out.below aP);have cE := af (HB.out.trans (aP.mono HB.out.size));have ib := af (CP (B' := w1.heap.size) aM (by simp));have abE : (n : Int) ≤ 9223372036854775807 := by omega
 clear aM yI aP jB NT HG HB;go_wp2_with fail
 go_loopw [3, 5, 6, 7, 21] (fun v _ _ _ i wr => ∃ k : Nat, k ≤ n ∧ i = .int .i64 k ∧ Hid (jL X.heap.size wr v (digits n :: (R.take k).map fun x => aX x.pl) ∧ Below X.heap.size X wr ∧ wr.ownsRow w1.heap.size 3 1 (.slice p2 n c2) n ((R.map (·.t)).map (Value.int .i64)))) (fun _ _ _ _ i _ => n - (intOf i).toNat)
 case atStart => exact ⟨0, by omega, rfl, af ⟨rV.out, cE.out, ib.out⟩⟩
 case round =>
  obtain ⟨k, hk, rfl, HR⟩ := hrel;by_cases bd : k < n
  ·obtain ⟨y, hy⟩ : ∃ y, R[k]? = some y := ⟨_, acF (by have := HN.out; omega)⟩
   obtain ⟨p2', c2', My, _, _, yI⟩ := fL HR.out.2.2;injection My with My _ he3;subst My he3;obtain ⟨gk, rfl, ZV, hc⟩ := yI (by omega);have abF : wr.cell? ⟨gk, k, none⟩ = some (.int .i64 y.t) := hc k y.t (by simp [hy]);have oK : Below X.heap.size X wr := HR.out.2.1;have RG := HX.out.below oK;have c0r := RG.c0;obtain ⟨Dr, YP⟩ := RG.map;have Gy : y ∈ R := acS hy;have nU := HX.out.ok.ok y.pl (ads.2 ⟨y, Gy, rfl⟩);have hl : (Instr.lookup 168 (.map (some bm)) (.int .i64 y.t) false).run prog wr = .ok (zX (bj kR R y.t)) wr := YP.look (k := y.t) (ad5 (by have h1 : 1 ≤ y.t := nU.2.2.1; have h2 : y.t ≤ 1099511627776 := nU.2.2.2; omega)) 0;rw [show bj kR R y.t = some y from gR HX.out.rises.ids Gy] at hl;have HF := af (RG.fo y Gy);have iB : Hid (R.take (k + 1) = R.take k ++ [y]) := af (by rw [ac5, hy]; rfl);have J8 : Hid (dT y.t y.L) := af nU.1;have dH := af oK;clear YP RG Gy nU hc yI hy oK;obtain ⟨t, g, b, L⟩ := y;dsimp only [zX, Tr.v, Tr.pl] at *;go_wp2_with fail
   refine (Jr HF.out).mono ?_;rintro e3 w3 ⟨v3, rfl, kY, cF⟩;have uJ : (aQ L).length ≤ 64 := by rw [(cG L).length_eq]; exact J8.out.len
   have HPT := af (rz kY.gp (by omega) (fun x hx => zZ (J8.out.ok x (iR.1 hx)).1) (F5 J8.out));have fH := af cF;clear kY cF uJ;go_wp2_with fail
   refine HPT.out.mono ?_;rintro e4 w4 ⟨v4, rfl, iP, bY⟩;obtain ⟨q4, m4, c4, rfl⟩ := iP.bp.sl;have sU := bH iP.bp;have dL : Hid (Below wr.heap.size wr w4) := af (fH.out.trans (bY.mono fH.out.size));have K9 := py J8.out;obtain ⟨eb, heb⟩ : ∃ eb, cN (aQ L) = eb := ⟨_, rfl⟩
   have HBS : Hid (aX (t, L) = digits eb.length ++ eb) := af (by unfold aX; rw [heb]);rw [heb] at sU K9;have HWT := af (fK (By.nil w4) (by simp) (str eb) (by have := pw eb; omega));have ZH := af K9;clear iP bY HPT heb K9;go_wp2_with fail
   refine HWT.out.mono ?_;rintro e5 w5 ⟨v5, rfl, bP, aL⟩;obtain ⟨q5, m5, c5, rfl⟩ := bP.bp.sl;have cH : Hid (Below wr.heap.size wr w5) := af (dL.out.trans (aL.mono dL.out.size));have JA := Apart.fO HR.out.1 (bP.mono (B' := wr.heap.size) dL.out.size);have HAP := af JA;have wv := af (HR.out.1.below cH.out);have Xw := af bP.bp;have LB : X.heap.size ≤ w5.heap.size := acN dH.out.size cH.out.size;have yZ : Hid ((digits n :: (R.take k).map fun x => aX (x.t, x.L)).length ≤ 1100000) := af (by
    simp only [acZ, adv, ac6];omega)
   have Ak : Hid (digits n :: (R.take (k + 1)).map (fun x => aX (x.t, x.L)) = (digits n :: (R.take k).map fun x => aX (x.t, x.L)) ++ [[] ++ digits (str eb).size ++ (str eb).data.toList]) := af (by
    rw [iB.out, pw, BM, aed, aeZ, List.map_singleton];dsimp only;rw [HBS.out];rfl)
   clear JA bP aL HWT sU hl;go_wp2_with (at_builtin; go_must (refine uS (v := u3) rfl _ _ rfl rfl rfl rfl wv.out Xw.out HAP.out LB yZ.out ?_); intro v6 w6 eM bK yX)
   go_roundw;case rel => exact ⟨k + 1, by omega, by go_num, af ⟨by rw [Ak.out]; exact eM, (dH.out.trans (cH.out.mono dH.out.size)).trans bK, Fx (mV HR.out.2.2 cH.out) wv.out yX⟩⟩
   case measure => simp [intOf]; omega
  ·obtain rfl : k = n := by omega
   have lk : R.take k = R := acY (by have := HN.out; omega);have hg := HR.out.1;rw [lk] at hg;have ZX : Lib.lens (digits k :: R.map fun x => aX x.pl) ≤ 140737488355328 := by
    have h1 := kv (S := R.map Tr.pl) fun y hy => (HX.out.ok.ok y hy).1;have h2 := digits_length k (by omega);rw [aeO] at h1;simp only [Lib.lens, ad7, List.sum_cons, adv] at h1 ⊢;have := HN.out;have h3 : (List.map (fun x => x.length) (List.map (aX ∘ Tr.pl) R)).sum = (List.map (fun x => x.length) (List.map (fun x => aX x.pl) R)).sum := rfl;omega
   have HJ := af (tH hg.bss ZX (by simp; have := HN.out; omega));have HFL : Hid ((digits k :: R.map fun x => aX x.pl).flatten = br (R.map Tr.pl)) := af (by rw [kx, adv, HN.out, aeO]; rfl);have dH := af HR.out.2.1;clear lk hg ZX;go_wp2_with fail
   refine HJ.out.mono ?_;rintro e2 w9 ⟨v9, rfl, gE, eW⟩;have HO := af (gE.mono (B' := w.heap.size) (acN qQ.out.size dH.out.size));have FN := af (qQ.out.trans ((dH.out.trans (eW.mono dH.out.size)).mono qQ.out.size));clear gE eW;go_wp2;go_ret;exact ⟨_, rfl, by rw [← HFL.out]; exact HO.out, FN.out⟩
end Go.Proofs.YtionbmlicmibgaaGreatDoor
