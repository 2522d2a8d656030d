import Derived.Laws.BitsAllLaws
import Derived.WalkLawsBesides
import Derived.WalkSpells
import Derived.Outline
import Derived.Laws.IdiomAt
import Derived.Deep.LoopGhost
import Derived.Deep.AppendLies
import Derived.Deep.MidRow
import Derived.Lib.AppendStr
import Derived.Lib.AppendZeros
import Derived.Deep.QuietTactic
import Derived.BigQuiet
import Derived.LoopTactic
import Derived.Lib.Bytealg
import Derived.Deep.RegionHeld3
import Derived.Deep.DrawnRows
import Derived.Laws.StructEq
import Derived.Maps.AppendAt
import Derived.BigGuard
import Derived.Test.YtionbmlicmibgaaGreatDoorBase
set_option linter.unusedVariables false
set_option linter.unusedSimpArgs false
namespace Go.Proofs.YtionbmlicmibgaaGreatDoor
open Go.Proofs.Tryz
set_option maxRecDepth 200000
set_option maxHeartbeats 1100000
def hi (m : Nat) : List UInt8 := if _h : m = 0 then [] else hi (m / 128) ++ [UInt8.ofNat (m % 128 + 128)]
termination_by m
decreasing_by omega
def digits (n : Nat) : List UInt8 := hi (n / 128) ++ [UInt8.ofNat (n % 128)]
theorem m_ : hi 0 = [] := by rw [hi]; simp
theorem qo {m : Nat} (h : m ≠ 0) : hi m = hi (m / 128) ++ [UInt8.ofNat (m % 128 + 128)] := by rw [hi]; simp [h]
theorem xE (m f : Nat) (h : m < 128 ^ f) : (hi m).length ≤ f := by
 induction f generalizing m with
 | zero => simp at h; subst h; rw [m_]; simp
 | succ f ih =>
  by_cases h0 : m = 0
  ·subst h0; rw [m_]; simp
  ·rw [qo h0];have := ih (m / 128) (by rw [Nat.pow_succ] at h; omega);simp;omega
theorem digits_length (n : Nat) (h : n < 9223372036854775808) : (digits n).length ≤ 9 := by
 unfold digits;have := xE (n / 128) 8 (by omega);simp;omega
theorem bZ (n : Nat) : 0 < (digits n).length := by simp [digits]
theorem zr {n : Nat} (h : n < 128) : digits n = [UInt8.ofNat n] := by
 unfold digits;rw [Nat.div_eq_of_lt h, m_, Nat.mod_eq_of_lt h];rfl
theorem ou (N k : Nat) : N / 2 ^ (7 * (k + 1)) = N / 2 ^ (7 * k) / 128 := by
 rw [Nat.mul_add, Nat.pow_add, Nat.div_div_eq_div_mul]
theorem tA (N : Nat) {j k : Nat} (h : j ≤ k) : N / 2 ^ (7 * k) ≤ N / 2 ^ (7 * j) :=
 Nat.div_le_div_left (aeV (by decide) (by omega)) (Nat.two_pow_pos _)
theorem OG (N k q : Nat) (hq : q < k) (hk : 1 ≤ N / 2 ^ (7 * k)) :
  hi (N / 2 ^ (7 * (k + 1 - q))) ++ [UInt8.ofNat (N / 2 ^ (7 * (k - q)) % 128 + 128)] = hi (N / 2 ^ (7 * (k + 1 - (q + 1)))) := by
 have e : k + 1 - q = (k - q) + 1 := by omega
 have e2 : k + 1 - (q + 1) = k - q := by omega
 rw [e, e2, ou, ← qo];have := tA N (show k - q ≤ k by omega);omega
theorem Ll (N k : Nat) (h : N / 2 ^ (7 * k) < 128) : hi (N / 2 ^ (7 * (k + 1 - 0))) = [] := by
 rw [Nat.sub_zero, ou, Nat.div_eq_of_lt h, m_]
theorem S_ (N k : Nat) : hi (N / 2 ^ (7 * (k + 1 - k))) = hi (N / 128) := by
 rw [show k + 1 - k = 1 by omega]
theorem count_le (N k : Nat) (hN : N < 9223372036854775808) (h : 1 ≤ N / 2 ^ (7 * k)) : k ≤ 8 := by
 by_cases hk : k ≤ 8
 ·exact hk
 ·have := tA N (show 9 ≤ k by omega);have h9 : N / 2 ^ (7 * 9) = 0 := Nat.div_eq_of_lt (by simpa using hN);omega
theorem Ta : ∀ y : Fin 256, bits BinOp.or IntKind.u8 ((y.val : Nat) : Int) 128 = ((y.val % 128 + 128 : Nat) : Int) := by decide +kernel
theorem FZ : ∀ y : Fin 256, bits BinOp.and IntKind.u8 ((y.val : Nat) : Int) 127 = ((y.val % 128 : Nat) : Int) := by decide +kernel
theorem OH (X : Nat) : bits BinOp.or IntKind.u8 ((X : Int) % 256) 128 = ((UInt8.ofNat (X % 128 + 128)).toNat : Int) := by
 have h := Ta ⟨X % 256, ae8 _ (by decide)⟩;have e : ((X : Int) % 256) = ((X % 256 : Nat) : Int) := by simp
 rw [e, h];simp;omega
theorem Lm (X : Nat) : bits BinOp.and IntKind.u8 ((X : Int) % 256) 127 = ((UInt8.ofNat (X % 128)).toNat : Int) := by
 have h := FZ ⟨X % 256, ae8 _ (by decide)⟩;have e : ((X : Int) % 256) = ((X % 256 : Nat) : Int) := by simp
 rw [e, h];simp;omega
open Go.RowKit
theorem Tryz.info5 : (Tryz.prog.info? 5).map (fun i => (i.zero, i.size, i.bytes)) = some (some (.int .u8 0), 1, 1) := by kernel_rfl
theorem Tb {w : World} {v : Value} {l : List UInt8} (h : By w v l) (hl : l.length ≤ 140737488355328) :
  Calls prog 24 #[v] w fun e w' => ∃ v', e = .returned v' ∧ Own w.heap.size w' v' l ∧ Below w.heap.size w w' := by
 obtain ⟨p, c, rfl, wV, hm, hn, hc⟩ := h;have q22 : ∀ (w : World) (a : Option Addr) (n c n' c' : Nat), (binOp .eql 32 (.slice a n c) (.slice none n' c')).run prog w = .ok (.bool a.isNone) w := fun w a n c n' c' => Lib.run_eql_slice_nil w _ _ a n c n' c' adu;rcases p with _ | a
 ·obtain rfl : l = [] := acP (by have := hn rfl; omega);go_enter func24, ntmps24
  go_wp2;go_ret;exact ⟨_, rfl, Own.nil _ _, acG _ _⟩
 ·obtain ⟨i0, hi, gu, fC, fD⟩ := adM Tryz.info5;have A := af hc;clear hc;go_enter func24, ntmps24
  go_wp2_with (at_builtin; refine afh _ rfl _ _ 32 rfl w.heap.size 5 i0 (.int .u8 0) 1 1 adu hi gu fC fD rfl (by decide) _ _ _ rfl (World.ownsRow_made w #[] 0 (acE _) (adq _) rfl) a l.length c (l.map bv) rfl ?qc1 ?qc2 ?qc3 ?qc4 ?qc5 ?qc6 ?_)
  case qc1 => simp
  case qc2 =>
   intro j u hj;rw [adS] at hj;obtain ⟨x, hx, rfl⟩ := aey.1 hj;exact acX _ (A.out a rfl j x hx)
  case qc3 => intro u hu; obtain ⟨x, _, rfl⟩ := ads.1 hu; rfl
  case qc4 => simp only [maxLen]; omega
  case qc5 => omega
  case qc6 => simp
  intro v' w1 dG tB Tc;go_wp2;go_ret;refine ⟨v', rfl, Own.iX (by simpa using dG), ?_⟩;exact ((acG _ w).alloc (acE _) _).grown tB (by simp) (by intro k hk; simp [Value.ownBlock] at hk; omega)
def lim : Nat := 9223372036854775808
theorem iQ (w : World) (u : Value) (t : TypeId) : ∀ j x, ([u] : List Value)[j]? = some x → (w.alloc (.cells #[u] t)).cell? ((⟨w.heap.size, 0, none⟩ : Addr).add j) = some x := cell_one_new _ _ _
theorem Iz (w : World) (n : Nat) (hn : w.heap.size = n) (u : Value) (t : TypeId) : ∀ j x, ([u] : List Value)[j]? = some x → (w.alloc (.cells #[u] t)).cell? ((⟨n, 0, none⟩ : Addr).add j) = some x := by
 subst hn;exact cell_one_new _ _ _
theorem qp (k : IntKind) (x : Int) : ∀ u ∈ [Value.int k x], u.oneCell' = true := by intro u hu; simp at hu; subst hu; rfl
theorem nc {B : Nat} {a w w' : World} {v : Value} {e : TypeId} {n : Nat} {xs : List Value} (h : Below B a w) (hg : w.grownBy w' v.ownBlock) (hB : B ≤ w.heap.size) (dG : w.ownsRow B e 1 v n xs) : Below B a w' :=
 h.grown hg hB fun k hk => (dG.lt k hk).1
theorem tC (n : Int) (N : Nat) (hN : max n 0 = (N : Int)) (sG : N < lim) (w : World) :
  Calls prog 99 #[.int .i64 n] w fun e w' => ∃ v', e = .returned v' ∧ Own w.heap.size w' v' (digits N) ∧ Below w.heap.size w w' := by
 obtain ⟨i0, eV, gu, fC, fD⟩ := adM Tryz.info5;go_enter func99, ntmps99
 go_wp2;go_loop [3] (fun f => ∃ k : Nat, k ≤ 8 ∧ (0 < k → 1 ≤ N / 2 ^ (7 * k)) ∧ f = .int .i64 k) (fun f => 9 - (intOf f).toNat)
 case atStart => exact ⟨0, by omega, fun h => by omega, rfl⟩
 case round =>
  obtain ⟨k, hk, Bw, rfl⟩ := hrel;have HP := af Bw;clear Bw;by_cases ht : (128 : Int) ≤ (N : Int) / 2 ^ (7 * k)
  ·have NF : 1 ≤ N / 2 ^ (7 * (k + 1)) := by
    rw [ou];have : ((N / 2 ^ (7 * k) : Nat) : Int) = (N : Int) / 2 ^ (7 * k) := by simp
    omega
   have Vm := count_le N (k + 1) sG NF;have HT := af NF;clear NF;go_wp2;go_round
   case rel => exact ⟨k + 1, Vm, fun _ => HT.out, by go_num⟩
   case measure => simp [intOf]; omega
  ·have NF : N / 2 ^ (7 * k) < 128 := by
    have : ((N / 2 ^ (7 * k) : Nat) : Int) = (N : Int) / 2 ^ (7 * k) := by simp
    omega
   have HT := af NF;clear NF;go_wp2_with (at_make; refine wpList_make_own _ rfl _ _ 32 rfl w.heap.size 5 i0 (.int .u8 0) 1 adu eV gu fC .i64 .i64 9 9 rfl rfl rfl (by omega) (by decide) (acE _) ?_; intro w1 tG eQ)
   go_loopw [4, 5, 17] (fun v i j wr => ∃ (q : Nat) (l : List UInt8), q ≤ k ∧ j = .int .i64 q ∧ l = hi (N / 2 ^ (7 * (k + 1 - q))) ∧ l.length ≤ q ∧ wr.ownsRow w.heap.size 5 1 v l.length (l.map bv) ∧ Below w.heap.size w wr) (fun _ _ j _ => k - (intOf j).toNat)
   case atStart =>
    refine ⟨0, [], by omega, rfl, ?_, by simp, tG, (acG _ _).grown eQ (acE _) (fun g h => by cases h)⟩;rw [Ll N k HT.out]
   case round =>
    obtain ⟨q, l, hq, rfl, hl, hlq, dG, hb⟩ := hrel;have HL := af hl;clear hl tG eQ;have IA := hb.size;by_cases hqk : q < k
    ·go_wp2_with (at_builtin; refine afh _ rfl _ _ 32 rfl w.heap.size 5 i0 (.int .u8 0) 1 1 adu eV gu fC fD rfl (by decide) _ _ _ rfl (dG.alloc _) ⟨wr.heap.size, 0, none⟩ 1 1 [Value.int IntKind.u8 (bits BinOp.or IntKind.u8 ((N : Int) / 2 ^ (7 * (k - q)) % 256) 128)] rfl rfl (iQ _ _ _) (qp _ _) (by simp only [maxLen]; omega) (by omega) (by simp; omega) ?_; intro v2 w2 jk dO _)
     have aP := nc (hb.alloc IA _) dO (by simp; omega) (dG.alloc _);have e : bits BinOp.or IntKind.u8 ((N : Int) / 2 ^ (7 * (k - q)) % 256) 128 = ((UInt8.ofNat (N / 2 ^ (7 * (k - q)) % 128 + 128)).toNat : Int) := by
      rw [← OH]; simp
     rw [e] at jk;have R : w2.ownsRow w.heap.size 5 1 v2 (l ++ [UInt8.ofNat (N / 2 ^ (7 * (k - q)) % 128 + 128)]).length ((l ++ [UInt8.ofNat (N / 2 ^ (7 * (k - q)) % 128 + 128)]).map bv) := by
      simpa [bv] using jk
     have HR := af R;clear jk R dG dO e;go_wp2;go_roundw;case rel =>
      refine ⟨q + 1, _, by omega, by go_num, ?_, ?_, HR.out, aP⟩
      ·rw [HL.out]; exact OG N k q hqk (HP.out (by omega))
      ·simp; omega
     case measure => simp [intOf]; omega
    ·obtain rfl : q = k := by omega
     go_wp2_with (at_builtin; refine afh _ rfl _ _ 32 rfl w.heap.size 5 i0 (.int .u8 0) 1 1 adu eV gu fC fD rfl (by decide) _ _ _ rfl (dG.alloc _) ⟨wr.heap.size, 0, none⟩ 1 1 [Value.int IntKind.u8 (bits BinOp.and IntKind.u8 ((N : Int) % 256) 127)] rfl rfl (iQ _ _ _) (qp _ _) (by simp only [maxLen]; omega) (by omega) (by simp; omega) ?_; intro v2 w2 jk dO _)
     have aP := nc (hb.alloc IA _) dO (by simp; omega) (dG.alloc _);rw [Lm N] at jk;have R : w2.ownsRow w.heap.size 5 1 v2 (l ++ [UInt8.ofNat (N % 128)]).length ((l ++ [UInt8.ofNat (N % 128)]).map bv) := by
      simpa [bv] using jk
     have O := Own.iX R;rw [HL.out, S_] at O;have HO := af O;clear jk R dG dO O;go_wp2;go_ret;exact ⟨v2, rfl, HO.out, aP⟩
theorem Td {N : Nat} (h : N < lim) : (N : Int) ≤ 9223372036854775807 := by unfold lim at h; omega
theorem EC : ∀ (N : Nat) (n : Int) (_ : max n 0 = (N : Int)) (_ : N < lim) (w : World),
  Calls prog 102 #[.int .i64 n] w fun e w' => ∃ v', e = .returned v' ∧ w'.ownsRow w.heap.size 5 1 v' (digits N).length ((digits N).map bv) ∧ Below w.heap.size w w' := by
 intro N
 induction N using Nat.strongRecOn with
 | _ N ih =>
  intro n hN sG w;obtain ⟨i0, eV, gu, fC, fD⟩ := adM Tryz.info5;by_cases hs : n < 128
  ·clear ih;go_enter func102, ntmps102
   go_wp2;go_ret;have hN' : N < 128 := by omega
   refine ⟨_, rfl, ?_, (acG _ _).alloc (acE _) _⟩;rw [zr hN'];have h := afi (e := 5) (size := 1) w #[bv (UInt8.ofNat N)] 1 (acE _) (by decide) rfl;have e : bv (UInt8.ofNat N) = .int .u8 (N : Int) := by
    unfold bv;simp;omega
   simpa [e] using h
  ·obtain rfl : n = (N : Int) := by omega
   have UX := Td sG;have hd := digits_length (N / 128) (by unfold lim at sG; omega);have hp := bZ (N / 128);have IH := af (ih (N / 128) (by omega) ((N : Int) / 128) (by omega) (by unfold lim at *; omega));clear ih hN;go_enter func102, ntmps102
   go_wp2_with fail
   refine (IH.out _).mono ?_;rintro e w1 ⟨v1, rfl, dG, hb⟩;obtain ⟨g, cap, rfl, hg, bd⟩ := dG.form hp;obtain ⟨m, hm⟩ : ∃ m, (digits (N / 128)).length = m := ⟨_, rfl⟩
   rw [hm] at dG hd hp;rw [hm];have QV : (digits (N / 128))[m - 1]? = some (UInt8.ofNat (N / 128 % 128)) := by
    rw [← hm];unfold digits;simp
   have hc := dG.cellAt (m - 1) (by omega);have e1 : bv (UInt8.ofNat (N / 128 % 128)) = .int .u8 ((N : Int) / 128 % 128) := by
    unfold bv;simp;omega
   have e2 : bv (UInt8.ofNat (N / 128 % 128 + 128)) = .int .u8 ((N : Int) / 128 % 128 + 128) := by
    unfold bv;simp;omega
   have e3 : bv (UInt8.ofNat (N % 128)) = .int .u8 ((N : Int) % 128) := by
    unfold bv;simp;omega
   rw [adS, QV, ae6, e1] at hc;have hf := dG.frozenAt (m - 1);have hst := dG.stored (m - 1) (.int .u8 ((N : Int) / 128 % 128 + 128));have Te : (digits (N / 128)).set (m - 1) (UInt8.ofNat (N / 128 % 128 + 128)) = hi (N / 128) := by
    rw [← hm, qo (by omega)];unfold digits;simp
   have Tf : digits N = hi (N / 128) ++ [UInt8.ofNat (N % 128)] := rfl;have hlen : (digits N).length = m + 1 := by rw [Tf, ← Te]; simp [hm]
   have eF := hst.2;have dR := hst.1;have aK : Below w.heap.size w (w1.setCell ⟨g, m - 1, none⟩ (.int .u8 ((N : Int) / 128 % 128 + 128))) := hb.setCell (p := ⟨g, m - 1, none⟩) hg _;have IA := aK.size;have aS := af aK;have eL := af dR;have H2 := af e2;have H3 := af e3;have IB := af Te;have aaC := af Tf;have IC := af hlen;clear QV hm hst dG dR eF e1 e2 e3 Te Tf hlen aK;go_wp2_with (at_builtin; go_must (refine afh _ rfl _ _ 32 rfl w.heap.size 5 i0 (.int .u8 0) 1 1 adu eV gu fC fD rfl (by decide) _ _ _ rfl (eL.out.alloc _) ⟨w1.heap.size, 0, none⟩ 1 1 [Value.int IntKind.u8 ((N : Int) % 128)] rfl rfl (Iz _ _ (by simp [World.setCell]) _ _) (qp _ _) (by simp only [maxLen]; omega) (by omega) (by simp; omega) ?_); intro v2 w2 jk dO _)
   go_ret;refine ⟨v2, rfl, ?_, nc (aS.out.alloc IA _) dO (by simp; omega) (eL.out.alloc _)⟩;rw [IC.out, aaC.out, ← IB.out, aed, List.map_set, ad7, List.map_nil, H2.out, H3.out];exact jk
theorem lD {B b : Nat} {a : World} (hb : B ≤ b) : ∀ (vs : List Value) (o : Nat) {w : World}, Below B a w → Below B a (w.setCells b o vs)
 | [], _, _, h => h
 | _ :: vs, o, _, h => lD hb vs (o + 1) (h.setCell (p := ⟨b, o, none⟩) hb _)
theorem lZ (b : Nat) : ∀ (vs : List Value) (o : Nat) (w : World), w.grownBy (w.setCells b o vs) (some b)
 | [], _, w => adk w _
 | v :: vs, o, w => by
  have h1 : w.grownBy (w.setCell ⟨b, o, none⟩ v) (some b) := ⟨rfl, rfl, rfl, by simp [World.setCell], fun k _ hk => adf w ⟨b, o, none⟩ k v (fun e => hk (by simp [e]))⟩
  have h2 := lZ b vs (o + 1) (w.setCell ⟨b, o, none⟩ v);exact ⟨h2.os.trans h1.os, h2.tape.trans h1.tape, h2.output.trans h1.output, acN h1.size h2.size, fun k hk aN => (h2.block k (acV hk h1.size) aN).trans (h1.block k hk aN)⟩
theorem j9 (l : List UInt8) : ∀ u ∈ l.map bv, u.oneCell' = true := by
 intro u hu;obtain ⟨x, _, rfl⟩ := ads.1 hu;rfl
theorem ky {w : World} {v : Value} {l : List UInt8} {B : Nat} (hv : Own B w v l) (p : Option Addr) (c : Nat) : (Builtin.append_ #[32, 32] 32 #[v, .slice p 0 c]).run prog w = .ok v w := by
 obtain ⟨i0, eV, gu, fC, fD⟩ := adM Tryz.info5;rcases hv with ⟨rfl, rfl⟩ | ⟨g, cap, rfl, _, hl, _⟩
 ·cases p <;> simp [Builtin.append_, aeu adu, Go.sizeOf, typeInfo, eV, Builtin.lenOf, Builtin.firstCells, loadCells, loadCellsFrom]
 ·cases p <;> simp [Builtin.append_, aeu adu, Go.sizeOf, typeInfo, eV, Builtin.lenOf, Builtin.firstCells, hl, storeCells, loadCells, loadCellsFrom]
theorem wy {w : World} {B : Nat} {v x : Value} {l m : List UInt8} (hv : Own B w v l) (hx : By w x m) (hs : l.length + m.length ≤ 140737488355328) (hB : B ≤ w.heap.size) :
  ∃ v' w', (Builtin.append_ #[32, 32] 32 #[v, x]).run prog w = .ok v' w' ∧ Own B w' v' (l ++ m) ∧ w.grownBy w' v.ownBlock ∧ Below B w w' ∧ (∀ k, v'.ownBlock = some k → v.ownBlock = some k ∨ w.heap.size ≤ k) := by
 obtain ⟨i0, eV, gu, fC, fD⟩ := adM Tryz.info5;obtain ⟨p, c, rfl, wV, hm, hn, hc⟩ := hx;have OI : Below B w w := acG _ _;by_cases h0 : m = []
 ·subst h0;exact ⟨v, w, ky hv p c, by simpa using hv, adk w _, acG _ _, fun k hk => .inl hk⟩
 ·have Bw : 0 < m.length := adP.2 h0;rcases p with _ | ad
  ·have := hn rfl;omega
  ·have Ln : ∀ j u, (m.map bv)[j]? = some u → w.cell? (ad.add j) = some u := fun j u hj => by
    rw [adS] at hj;obtain ⟨x, hx, rfl⟩ := aey.1 hj;exact hc ad rfl j x hx
   have vV : (m.map bv).length = m.length * 1 := by simp
   rcases hv with ⟨rfl, rfl⟩ | ⟨g, cap, rfl, V8, hl, kO, hcell, Lp, wo⟩
   ·obtain ⟨v', w', dB, ho, hg, _, aG⟩ := adK (P := prog) w B 32 32 5 i0 (.int .u8 0) 1 1 adu eV gu fC fD rfl (by decide) (.slice none 0 0) 0 [] (aex _ _ _ _) ad m.length c (m.map bv) vV Ln (j9 m) (by simp only [maxLen]; omega) (by omega) hB;refine ⟨v', w', dB, Own.iX (by simpa using ho), hg, OI.grown hg hB (fun k hk => by simp [Value.ownBlock] at hk), fun k hk => by
     rcases aG with e | e
     ·exact .inl (e ▸ hk)
     ·rw [e] at hk;injection hk with hk;exact .inr (by omega)⟩
   ·by_cases Xf : l.length + m.length ≤ cap
    ·have hr := run_append_room_cells (P := prog) w 32 32 5 i0 adu eV g 0 l.length cap ad m.length c (m.map bv) (by rw [fC]; exact vV) Ln (j9 m) Xf
      (fun j hj => by rw [fC]; simp only [ac2, Nat.mul_one]; exact Lp _ (by simp at hj; omega)) (fun j hj => by rw [fC]; simp only [ac2, Nat.mul_one]; exact wo _ (by simp at hj; omega))
     rw [fC] at hr;simp only [ac2, Nat.mul_one] at hr;have hlen : (l ++ m).length = l.length + m.length := by simp
     refine ⟨_, _, hr, .inr ⟨g, cap, by rw [hlen], V8, by omega, kO, ?_, ?_, ?_⟩, by simpa [Value.ownBlock] using lZ g (m.map bv) l.length w, lD V8 _ _ OI, fun k hk => .inl hk⟩
     ·intro i y hy;by_cases hi : i < l.length
      ·rw [aea hi] at hy;rw [World.cell?_setCells_out g _ _ _ _ (fun _ _ => .inl hi)];exact hcell i y hy
      ·rw [ad6 (by omega)] at hy;have hj := (acL.1 hy).1;have h := World.cell?_setCells_in g (m.map bv) l.length w (fun j hj => Lp _ (by simp at hj; omega)) (i - l.length) (by simp; omega);rw [show l.length + (i - l.length) = i by omega] at h;rw [h, List.getElem_map];have := (acL.1 hy).2;rw [this]
     ·intro i hi;exact World.isSome_setCells g _ _ _ _ (Lp i hi)
     ·intro i hi;rw [World.frozen?_setCells];exact wo i hi
    ·obtain ⟨v', w', dB, ho, hg⟩ := run_append_arg_grows (P := prog) w 32 32 5 i0 (.int .u8 0) 1 1 adu eV gu fC fD rfl (by decide) ⟨g, 0, none⟩ l.length cap (l.map bv) (by simp) (fun j u hj => by
       rw [adS] at hj;obtain ⟨y, hy, rfl⟩ := aey.1 hj;rw [bq, ac2];exact hcell j y hy) ad m.length c (m.map bv) vV Ln (by omega) (by simp only [maxLen]; omega) (by omega)
     have GM : Below B w w' := OI.grown hg hB (fun k hk => by cases hk);have xC : w'.ownsRow w.heap.size 5 1 v' (l ++ m).length ((l ++ m).map bv) := by simpa using ho
     exact ⟨v', w', dB, (Own.iX xC).mono hB, ⟨hg.os, hg.tape, hg.output, hg.size, fun k hk _ => hg.block k hk (by simp)⟩, GM, fun k hk => .inr (xC.lt k hk).1⟩
theorem kz {w : World} {ops : Array Oper} {rest : List Oper} {o : Oper} {a : Act} {Q : Exit → Act → World → Prop} (kS : o.guard = none) (s x : Operand)
  (ho : o.op = .call { callee := .builtin .append, args := #[s, x], argTypes := #[32, 32] }) (hty : o.type = 32) {B : Nat} {v y : Value} {l m : List UInt8}
  (hs : a.eval s = v) (hy : a.eval x = y) (hv : Own B w v l) (hx : By w y m) (hl : l.length + m.length ≤ 140737488355328) (hB : B ≤ w.heap.size)
  (h : ∀ v' w', Own B w' v' (l ++ m) → w.grownBy w' v.ownBlock → Below B w w' → (∀ k, v'.ownBlock = some k → v.ownBlock = some k ∨ w.heap.size ≤ k) → wpList prog ops Q rest (a.put o.dst v') w') : wpList prog ops Q (o :: rest) a w := by
 obtain ⟨v', w', hr, h1, h2, h3, h4⟩ := wy hv hx hl hB;exact adC w kS s x 32 ho v y hs hy (by rw [hty]; exact hr) (h v' w' h1 h2 h3 h4)
theorem o8 {w : World} {B : Nat} {v x : Value} {l m : List UInt8} (hv : w.ownsRow B 5 1 v l.length (l.map bv)) (hx : By w x m) (hs : l.length + m.length ≤ 140737488355328) (hB : B ≤ w.heap.size) :
  ∃ v' w', (Builtin.append_ #[32, 32] 32 #[v, x]).run prog w = .ok v' w' ∧ w'.ownsRow B 5 1 v' (l ++ m).length ((l ++ m).map bv) ∧ Below B w w' := by
 obtain ⟨i0, eV, gu, fC, fD⟩ := adM Tryz.info5;obtain ⟨p, c, rfl, wV, hm, hn, hc⟩ := hx;by_cases h0 : m = []
 ·subst h0;exact ⟨v, w, ky (Own.iX hv) p c, by simpa using hv, acG _ _⟩
 ·have Bw : 0 < m.length := adP.2 h0;rcases p with _ | ad
  ·have := hn rfl;omega
  ·obtain ⟨v', w', dB, ho, hg, _, aG⟩ := adK (P := prog) w B 32 32 5 i0 (.int .u8 0) 1 1 adu eV gu fC fD rfl (by decide) v l.length (l.map bv) hv ad m.length c (m.map bv) (by simp) (fun j u hj => by
    rw [adS] at hj;obtain ⟨x, hx, rfl⟩ := aey.1 hj;exact hc ad rfl j x hx) (j9 m) (by simp only [maxLen]; omega) (by omega) hB
   exact ⟨v', w', dB, by simpa using ho, (acG _ _).grown hg hB fun k hk => (hv.lt k hk).1⟩
theorem h_ {w : World} {ops : Array Oper} {rest : List Oper} {o : Oper} {a : Act} {Q : Exit → Act → World → Prop} (kS : o.guard = none) (s x : Operand)
  (ho : o.op = .call { callee := .builtin .append, args := #[s, x], argTypes := #[32, 32] }) (hty : o.type = 32) {B : Nat} {v y : Value} {l m : List UInt8}
  (hs : a.eval s = v) (hy : a.eval x = y) (hv : w.ownsRow B 5 1 v l.length (l.map bv)) (hx : By w y m) (hl : l.length + m.length ≤ 140737488355328) (hB : B ≤ w.heap.size)
  (h : ∀ v' w', w'.ownsRow B 5 1 v' (l ++ m).length ((l ++ m).map bv) → Below B w w' → wpList prog ops Q rest (a.put o.dst v') w') : wpList prog ops Q (o :: rest) a w := by
 obtain ⟨v', w', hr, h1, h2⟩ := o8 hv hx hl hB;exact adC w kS s x 32 ho v y hs hy (by rw [hty]; exact hr) (h v' w' h1 h2)
theorem IE (w : World) : (w.alloc (.cells #[] 5)).ownsRow w.heap.size 5 1 (.slice (some ⟨w.heap.size, 0, none⟩) 0 0) ([] : List UInt8).length (([] : List UInt8).map bv) := World.ownsRow_made w #[] 0 (acE _) (adq _) rfl
theorem mV {w w' : World} {B n : Nat} {e : TypeId} {v : Value} {xs : List Value} (h : w.ownsRow B e 1 v n xs) (hb : Below w.heap.size w w') : w'.ownsRow B e 1 v n xs :=
 h.kept (row := none) ⟨hb.os, hb.tape, hb.output, hb.size, fun k hk _ => hb.block k hk⟩ (by cases v.ownBlock <;> simp)
theorem Bz (s : ByteArray) : Lib.strCells s = s.data.toList.map bv := rfl
theorem gQ {w : World} {v : Value} {l : List UInt8} (hv : By w v l) (hl : l.length ≤ 140737488000000) (n : Int) (N : Nat) (hN : max n 0 = (N : Int)) (sG : N < lim) :
  Calls prog 56 #[v, .int .i64 n] w fun e w' => ∃ v', e = .returned v' ∧ w'.ownsRow w.heap.size 5 1 v' (l ++ digits N).length ((l ++ digits N).map bv) ∧ Below w.heap.size w w' := by
 have hd := digits_length N sG;have HV := af hv;have HN := af hN;clear hv hN;go_enter func56, ntmps56
 go_wp2_with (at_builtin; go_must (refine h_ rfl _ _ rfl rfl rfl rfl (IE w) (HV.out.alloc _) (by simp; omega) (by simp) ?_); intro v1 w1 tG aK)
 refine (EC N n HN.out sG _).mono ?_;rintro e w2 ⟨v2, rfl, jk, aP⟩;have h1 := mV tG aP;have h2 := (Own.iX jk).bp;have ow : Below w.heap.size w w1 := ((acG _ w).alloc (acE _) _).trans aK;have hb : Below w.heap.size w w2 := ow.trans (aP.mono ow.size);have IA := hb.size;have H1 := af h1;have H2 := af h2;have HB := af hb;clear tG jk h1 h2 aK aP ow hb;go_wp2_with (at_builtin; go_must (refine h_ rfl _ _ rfl rfl rfl rfl H1.out H2.out (by simp; omega) IA ?_); intro v3 w3 Xg cF)
 go_ret;exact ⟨v3, rfl, Xg, HB.out.trans cF⟩
theorem jP {w : World} {v : Value} {l : List UInt8} (hv : By w v l) (hl : l.length ≤ 1100000) (s : ByteArray) (hs : s.size ≤ 1100000) :
  Calls prog 58 #[v, .string s] w fun e w' => ∃ v', e = .returned v' ∧ Own w.heap.size w' v' (l ++ digits s.size ++ s.data.toList) ∧ Below w.heap.size w w' := by
 obtain ⟨i0, eV, gu, fC, fD⟩ := adM Tryz.info5;have hd := digits_length s.size (by omega);have HV := af hv;clear hv;go_enter func58, ntmps58
 go_wp2_with fail
 refine (gQ HV.out (by omega) _ s.size (by omega) (by unfold lim; omega)).mono ?_;rintro e w1 ⟨v1, rfl, dG, hb⟩;have IA := hb.size;go_wp2_with (at_builtin; go_must (refine Lib.wpList_append_own_string _ rfl _ _ 32 9 rfl w.heap.size 5 i0 adu afb eV gu fC fD v1 _ _ rfl dG s rfl (by simp [maxLen]; omega) (by simp; omega) IA ?_); intro v2 w2 jk dO _)
 go_ret;have aP := nc hb dO IA dG;refine ⟨v2, rfl, ?_, aP⟩;have e : (l ++ digits s.size).length + s.size = (l ++ digits s.size ++ s.data.toList).length := by
  simp only [acH, ad4];rfl
 rw [e, Bz, ← aed] at jk;exact Own.iX jk
theorem By.sl {w : World} {v : Value} {l : List UInt8} (h : By w v l) : ∃ p n c, v = .slice p n c := by
 obtain ⟨p, c, e, _⟩ := h;exact ⟨p, _, c, e⟩
theorem By.len {w : World} {p : Option Addr} {n c : Nat} {l : List UInt8} (h : By w (.slice p n c) l) : n = l.length ∧ n ≤ c := by
 obtain ⟨p', c', e, hl, _⟩ := h;injection e with _ e2 e3;subst e2 e3;exact ⟨rfl, hl⟩
theorem xF {w : World} {a : Option Addr} {len cap : Nat} {zs : List Int}
  (h : (a = none ∧ len = 0 ∧ cap = 0 ∧ zs = []) ∨ ∃ x, a = some x ∧ len ≤ cap ∧ cap ≤ maxLen ∧ zs.length = cap ∧ (∀ i, i < zs.length → w.cell? (x.add i) = some (.int .u8 (zs.getD i 0))) ∧ ∀ n ∈ zs, (Lit.int .u8 n).wf = true) :
  ∃ l : List UInt8, l.length = len ∧ By w (.slice a len cap) l := by
 rcases h with ⟨rfl, rfl, rfl, rfl⟩ | ⟨x, rfl, hl, hm, hz, hc, hw⟩
 ·exact ⟨[], rfl, By.nil w⟩
 ·have Lj : (Lib.bytesOf (zs.take len)).length = len := by simp [Lib.bytesOf]; omega
  refine ⟨Lib.bytesOf (zs.take len), Lj, some x, cap, by rw [Lj], by rw [Lj]; exact hl, hm, (fun e => by cases e), fun b e i y hy => ?_⟩;injection e with e;subst e;have hi : i < len := by rw [← Lj]; exact (acL.1 hy).1
  rw [hc i (by omega)];have RP : i < zs.length := by omega
  simp only [Lib.bytesOf, adS, List.getElem?_take, hi, if_true, acF RP, ae6, adp] at hy;have hwf := hw zs[i] (List.getElem_mem RP);have h1 : IntKind.u8.min = 0 := rfl;have h2 : IntKind.u8.max = 255 := rfl;simp only [Lit.wf, adb, adr] at hwf;simp only [List.getD, acF RP, aep, adp, bv, Value.int.injEq, true_and];rw [← hy];simp;omega
theorem zu (r : List (List UInt8)) : Lib.joinTail [] r = r.flatten := by
 unfold Lib.joinTail
 congr 1
 conv => rhs; rw [← List.map_id r]
 apply List.map_congr_left;intro x _;rfl
theorem zv (ls : List (List UInt8)) : Lib.join ls [] = ls.flatten := by
 cases ls with
 | nil => rfl
 | cons x r => rw [Lib.join_cons, zu]; rfl
theorem holds_nil (w : World) : Lib.HoldsBytes w (.slice none 0 0) [] := ⟨none, 0, rfl, fun _ => rfl, fun a h => by cases h⟩
theorem qq {w : World} {b o n c : Nat} {vs : List Value} {ls : List (List UInt8)} (hn : ls.length = n) (h2 : 2 ≤ n) (hP : Lib.PartsAt w ⟨b, o, none⟩ vs ls) (hc : n ≤ c) (hl : Lib.lens ls ≤ 140737488355328) (OJ : n ≤ 140737488355328) :
  Calls prog 98 #[.slice (some ⟨b, o, none⟩) n c] w fun e w' => ∃ v', e = .returned v' ∧ Own w.heap.size w' v' ls.flatten ∧ Below w.heap.size w w' := by
 have H := af (Tryz.bytes_Join_many b o n c vs ls (.slice none 0 0) [] w hn h2 hP hc (holds_nil w) OJ (by simpa using hl));clear hP hn;go_enter func98, ntmps98
 go_wp2_with fail
 refine H.out.mono ?_;rintro e w1 ⟨v1, rfl, hf, hb⟩;have HO := af (Own.AE hf);clear hf H;go_wp2;go_ret;exact ⟨v1, rfl, by have := HO.out; rwa [zv] at this, hb⟩
theorem xG {w : World} {t : TypeId} {vs : List Value} {ls : List (List UInt8)} (hl : vs.length = ls.length) (h : ∀ (i : Nat) v l, vs[i]? = some v → ls[i]? = some l → By w v l) :
  Lib.PartsAt (w.alloc (.cells vs.toArray t)) ⟨w.heap.size, 0, none⟩ vs ls := by
 refine ⟨hl, fun i v hv => ?_, fun i v l hv J6 => ((h i v l hv J6).alloc _).holds⟩;rw [bq, ac2, acC _ _ i vs.toArray t (0, 0) (acQ w _)]
 simpa using hv
theorem bh {w : World} {v : Value} {l : List UInt8} (hv : By w v l) (hl : l.length ≤ 140737488000000) (n : Int) (N : Nat) (hN : max n 0 = (N : Int)) (sG : N < lim) :
  Calls prog 52 #[v, .int .i64 n] w fun e w' => ∃ v', e = .returned v' ∧ Own w.heap.size w' v' (l ++ digits N) ∧ Below w.heap.size w w' := by
 have hd := digits_length N sG;obtain ⟨p0, c0, rfl⟩ := hv.shape;have HV := af hv;have HN := af hN;clear hv hN;go_enter func52, ntmps52
 go_wp2_with fail
 refine (tC n N HN.out sG _).mono ?_;rintro e w1 ⟨v1, rfl, ho, hb⟩;have IA := hb.size;obtain ⟨p1, c1, rfl⟩ := ho.bp.shape;have HP := af (xG (w := w1) (t := 32) (vs := [.slice p0 l.length c0, .slice p1 (digits N).length c1]) (ls := [l, digits N]) rfl (fun i u m hu hm => by
  match i, hu, hm with
  | 0, hu, hm => simp at hu hm; subst hu hm; exact HV.out.below hb
  | 1, hu, hm => simp at hu hm; subst hu hm; exact ho.bp))
 clear ho;go_wp2_with fail
 refine (qq (b := w1.heap.size) (o := 0) (n := 2) (c := 2) rfl (by omega) HP.out (by omega) (by simp [Lib.lens]; omega) (by omega)).mono ?_;rintro e w2 ⟨v2, rfl, eX, aP⟩;have HO := af eX;clear eX;go_wp2;go_ret;refine ⟨v2, rfl, (by simpa using HO.out.mono (show w.heap.size ≤ _ by simp; omega)), (hb.alloc IA _).trans (aP.mono (by simp; omega))⟩
theorem rB (w : World) (s : ByteArray) (hs : s.size ≤ 1100000) :
  ∃ (q : Nat) (w' : World), (convert 9 32 (.string s)).run prog w = .ok (.slice (some ⟨w.heap.size, 0, none⟩) s.size q) w' ∧ By w' (.slice (some ⟨w.heap.size, 0, none⟩) s.size q) s.data.toList ∧ Below w.heap.size w w' ∧ w.heap.size < w'.heap.size := by
 have hl : s.data.toList.length = s.size := by rw [ad4]; rfl
 refine ⟨_, _, run_bytes_of_string (P := prog) w 9 32 5 s afb adu underlying5, ?_, ?_, ?_⟩
 ·have h1 := grownCap_ge w s.size 0 5;have h2 := grownCap_le_maxLen w s.size 0 5 (by simp only [maxLen]; omega);generalize grownCap w s.size 0 5 = q at h1 h2;refine ⟨_, q, by rw [hl], by rw [hl]; exact h1, h2, (fun e => by cases e), fun a e i x hx => ?_⟩;injection e with e;subst e;have hi : i < s.size := by rw [← hl]; exact (acL.1 hx).1
  rw [bq, ac2];have := World.cell?_alloc_mark w.drew (bytesRow s q) 5 ((bytesRow s q).size, (bytesRow s q).size + 1) i;rw [show w.drew.heap.size = w.heap.size from rfl] at this;rw [this];have pX : s.data[i]? = some x := by simpa using hx
  have Vr : i < s.data.size := hi;unfold bytesRow;rw [aeW (by simpa using Vr), Array.getElem?_map, pX];rfl
 ·exact (acG _ w).drew.alloc (acE _) _
 ·simp
theorem fK {w : World} {v : Value} {l : List UInt8} (hv : By w v l) (hl : l.length ≤ 1100000) (s : ByteArray) (hs : s.size ≤ 1100000) :
  Calls prog 54 #[v, .string s] w fun e w' => ∃ v', e = .returned v' ∧ Own w.heap.size w' v' (l ++ digits s.size ++ s.data.toList) ∧ Below w.heap.size w w' := by
 have hd := digits_length s.size (by omega);have hsl : s.data.toList.length = s.size := by rw [ad4]; rfl
 have Om := af hsl;clear hsl;obtain ⟨p0, c0, rfl⟩ := hv.shape;have HV := af hv;clear hv;go_enter func54, ntmps54
 go_wp2_with fail
 refine (tC _ s.size (by omega) (by unfold lim; omega) _).mono ?_;rintro e w1 ⟨v1, rfl, ho, hb⟩;have IA := hb.size;obtain ⟨p1, c1, rfl⟩ := ho.bp.shape;obtain ⟨q, w2, sU, gZ, aP, bd⟩ := rB w1 s hs;have Tg := hb.trans (aP.mono IA);have HP := af (xG (w := w2) (t := 32) (vs := [.slice p0 l.length c0, .slice p1 (digits s.size).length c1, .slice (some ⟨w1.heap.size, 0, none⟩) s.size q]) (ls := [l, digits s.size, s.data.toList]) rfl (fun i u m hu hm => by
  match i, hu, hm with
  | 0, hu, hm => simp at hu hm; subst hu hm; exact HV.out.below Tg
  | 1, hu, hm => simp at hu hm; subst hu hm; exact (ho.bp).below aP
  | 2, hu, hm => simp at hu hm; subst hu hm; exact gZ))
 have HB := af Tg;clear ho gZ Tg hb;go_wp2_with fail
 refine (qq (b := w2.heap.size) (o := 0) (n := 3) (c := 3) rfl (by omega) HP.out (by omega) (by simp only [Lib.lens, ad7, List.map_nil, List.sum_cons, List.sum_nil]; rw [Om.out]; omega) (by omega)).mono ?_;rintro e w3 ⟨v3, rfl, kY, cF⟩;have HO := af kY;clear kY sU;go_wp2;go_ret;have aaD := HB.out.size;refine ⟨v3, rfl, ?_, (HB.out.alloc aaD _).trans (cF.mono (by simp; omega))⟩;have := HO.out.mono (show w.heap.size ≤ _ by simp; omega)
 simpa [ac7] using this
theorem By.cellAt {w : World} {p : Option Addr} {n c : Nat} {l : List UInt8} (h : By w (.slice p n c) l) {k : Nat} (hk : k < n) :
  ∃ (b o : Nat) (x : UInt8), p = some ⟨b, o, none⟩ ∧ l[k]? = some x ∧ w.cell? ⟨b, o + k, none⟩ = some (.int .u8 (x.toNat : Int)) := by
 have hn := h.len.1;obtain ⟨p', c', e, hl, hm, sF, hc⟩ := h;injection e with e1 e2 e3;subst e1 e3;rcases p with _ | a
 ·have := sF rfl;omega
 ·have J7 : k < l.length := by omega
  have h1 := hc a rfl k l[k] (acF J7);have Vs := hc a rfl 0 l[0] (acF (by omega));obtain ⟨b, o, spot⟩ := a;have Ie : spot = none := by
   have h2 := World.cell?_spot Vs;unfold Addr.add at h2;rw [acW rfl] at h2;exact h2
  subst Ie;exact ⟨b, o, l[k], rfl, acF J7, by rw [bq] at h1; exact h1⟩
def wG (w : World) (v : Value) (ls : List (List UInt8)) : Prop :=
 ∃ (p : Option Addr) (c : Nat), v = .slice p ls.length c ∧ ls.length ≤ c ∧ c ≤ maxLen ∧ (p = none → c = 0) ∧
  ∀ a, p = some a → ∀ (i : Nat) l, ls[i]? = some l → ∃ u, w.cell? (a.add i) = some u ∧ By w u l
theorem wG.nil (w : World) : wG w (.slice none 0 0) [] := ⟨none, 0, rfl, by simp, by simp [maxLen], fun _ => rfl, fun a h => by cases h⟩
theorem wG.sl {w : World} {v : Value} {ls : List (List UInt8)} (h : wG w v ls) : ∃ p n c, v = .slice p n c := by
 obtain ⟨p, c, e, _⟩ := h;exact ⟨p, _, c, e⟩
theorem wG.len {w : World} {p : Option Addr} {n c : Nat} {ls : List (List UInt8)} (h : wG w (.slice p n c) ls) : n = ls.length ∧ n ≤ maxLen ∧ n ≤ c := by
 obtain ⟨p', c', e, hl, hm, _⟩ := h;injection e with _ e2 e3;omega
theorem wG.cellAt {w : World} {p : Option Addr} {n c : Nat} {ls : List (List UInt8)} (h : wG w (.slice p n c) ls) {k : Nat} (hk : k < n) :
  ∃ (b o : Nat) (q : Option Addr) (m d : Nat) (l : List UInt8), p = some ⟨b, o, none⟩ ∧ ls[k]? = some l ∧ w.cell? ⟨b, o + k, none⟩ = some (.slice q m d) ∧ By w (.slice q m d) l := by
 have hn := h.len.1;obtain ⟨p', c', e, hl, hm, sF, hc⟩ := h;injection e with e1 e2 e3;subst e1 e3;rcases p with _ | a
 ·have := sF rfl;omega
 ·have J7 : k < ls.length := by omega
  obtain ⟨u, h1, hb⟩ := hc a rfl k ls[k] (acF J7);obtain ⟨u0, Vs, _⟩ := hc a rfl 0 ls[0] (acF (by omega));obtain ⟨b, o, spot⟩ := a;have Ie : spot = none := by
   have h2 := World.cell?_spot Vs;unfold Addr.add at h2;rw [acW rfl] at h2;exact h2
  subst Ie;obtain ⟨q, m, d, rfl⟩ := hb.sl;exact ⟨b, o, q, m, d, ls[k], rfl, acF J7, by rw [bq] at h1; exact h1, hb⟩
theorem By.jZ {w : World} {p : Option Addr} {n c : Nat} {l : List UInt8} (h : By w (.slice p n c) l) : (n : Int) ≤ 9223372036854775807 := by
 obtain ⟨p', c', e, hl, hm, _⟩ := h;injection e with _ e2 e3;unfold maxLen at hm;omega
theorem wG.BA {w : World} {b o n c : Nat} {vs : List Value} {ls : List (List UInt8)} (hn : n = ls.length) (hc : n ≤ c) (hm : c ≤ maxLen) (hl : vs.length = ls.length)
  (hcell : ∀ (i : Nat) v, vs[i]? = some v → w.cell? ⟨b, o + i, none⟩ = some v) (h : ∀ (i : Nat) v l, vs[i]? = some v → ls[i]? = some l → By w v l) : wG w (.slice (some ⟨b, o, none⟩) n c) ls := by
 subst hn;refine ⟨_, c, rfl, hc, hm, (fun e => by cases e), fun a e i l hi => ?_⟩;injection e with e;subst e;have Ix : i < vs.length := by rw [hl]; exact (acL.1 hi).1
 exact ⟨vs[i], by rw [bq]; exact hcell i _ (acF Ix), h i _ l (acF Ix) hi⟩
theorem wG.new {w : World} {t : TypeId} {n : Nat} {vs : List Value} {ls : List (List UInt8)} (hn : n = ls.length) (hm : n ≤ maxLen) (hl : vs.length = ls.length) (h : ∀ (i : Nat) v l, vs[i]? = some v → ls[i]? = some l → By w v l) :
  wG (w.alloc (.cells vs.toArray t)) (.slice (some ⟨w.heap.size, 0, none⟩) n n) ls := by
 refine wG.BA hn (acE _) hm hl (fun i v hv => ?_) fun i v l hv J6 => (h i v l hv J6).alloc _;rw [ac2, acC _ _ i vs.toArray t (0, 0) (acQ w _)]
 simpa using hv
theorem wG.parts {w : World} {b o n c : Nat} {ls : List (List UInt8)} (h : wG w (.slice (some ⟨b, o, none⟩) n c) ls) : ∃ vs, Lib.PartsAt w ⟨b, o, none⟩ vs ls := by
 have hn := h.len.1;obtain ⟨p', c', e, hl, hm, sF, hc⟩ := h;injection e with e1 e2 e3;subst e1 e3;refine ⟨(List.range ls.length).map fun i => (w.cell? ⟨b, o + i, none⟩).getD undef, by simp, fun i v hv => ?_, fun i v l hv J6 => ?_⟩;all_goals
  have hi : i < ls.length := by have := (acL.1 hv).1; simpa using this
  obtain ⟨u, hu, hb⟩ := hc _ rfl i ls[i] (acF hi);rw [bq] at hu;simp only [adS, List.getElem?_range hi, ae6, adp, hu, aep] at hv;subst hv
 ·rw [bq];exact hu
 ·rw [acF hi] at J6;injection J6 with J6;subst J6;exact hb.holds
theorem join_step {w : World} {v : Value} {P : Ending → World → Prop} (h : Calls prog 135 #[v, .slice none 0 0] w fun e w' => ∃ v', e = .returned v' ∧ P (.returned v') w') :
  Calls prog 98 #[v] w fun e w' => P e w' := by
 have H := af h;clear h;go_enter func98, ntmps98
 go_wp2_with fail
 refine H.out.mono ?_;rintro e w1 ⟨v1, rfl, hp⟩;have HP := af hp;clear hp H;go_wp2;exact HP.out
theorem BD (l : List UInt8) : [l].flatten = l := by simp
theorem tH {w : World} {v : Value} {ls : List (List UInt8)} (hv : wG w v ls) (hl : Lib.lens ls ≤ 140737488355328) (OJ : ls.length ≤ 140737488355328) :
  Calls prog 98 #[v] w fun e w' => ∃ v', e = .returned v' ∧ Own w.heap.size w' v' ls.flatten ∧ Below w.heap.size w w' := by
 obtain ⟨p, n, c, rfl⟩ := hv.sl;obtain ⟨hn, hm, Xh⟩ := hv.len;by_cases h2 : 2 ≤ n
 ·obtain ⟨b, o, _, _, _, _, rfl, _⟩ := hv.cellAt (k := 0) (by omega);obtain ⟨vs, hP⟩ := hv.parts;exact qq hn.symm h2 hP Xh hl (by omega)
 ·refine join_step (P := fun e w' => ∃ v', e = .returned v' ∧ Own w.heap.size w' v' ls.flatten ∧ Below w.heap.size w w') ?_;by_cases h1 : n = 1
  ·subst h1;obtain ⟨b, o, q, m, d, l, rfl, hx, hcell, gZ⟩ := hv.cellAt (k := 0) (by omega);have ZX : ls = [l] := by
    cases ls with
    | nil => simp at hx
    | cons x r =>
     simp at hx;subst hx;cases r with
     | nil => rfl
     | cons y r => simp at hn
   subst ZX;rw [BD];rw [Nat.add_zero] at hcell;obtain ⟨Lq, hmd⟩ := gZ.len;by_cases h0 : l.length = 0
   ·obtain rfl : l = [] := acP h0;obtain rfl : m = 0 := Lq;exact (Tryz.bytes_Join_one_empty b o c q d _ w hcell).mono fun e w' ⟨he, hw⟩ => ⟨_, he, _, rfl, Own.nil _ _, by rw [hw]; exact acG _ _⟩
   ·obtain ⟨b2, o2, x, rfl, _, _⟩ := gZ.cellAt (k := 0) (by omega);subst Lq;obtain ⟨q', d', e, _, _, _, hc⟩ := gZ;injection e with e1 e2 e3;subst e1;exact (Tryz.bytes_Join_one b o c _ d l _ w hcell (fun i x hx => hc _ rfl i x hx) (by omega) (by simp [Lib.lens] at hl; omega)).mono fun e w' ⟨v', he, hf, hb⟩ => ⟨_, he, _, rfl, Own.AE hf, hb⟩
  ·obtain rfl : n = 0 := by omega
   obtain rfl : ls = [] := acP hn.symm;refine (Tryz.bytes_Join_none p c _ w).mono fun e w' ⟨he, hw⟩ => ⟨_, he, _, rfl, ?_, by rw [hw]; exact (acG _ _).alloc (acE _) _⟩
   refine .inr ⟨w.heap.size, 0, rfl, acE _, acE _, by simp [maxLen], fun i x hx => by simp at hx, fun i hi => by omega, fun i hi => by omega⟩
theorem tJ (ls : List (List UInt8)) : ls.flatten.length = Lib.lens ls := by
 rw [ae4];rfl
theorem rC (w : World) (o : Obj) : (w.alloc o).heap.size = w.heap.size + 1 := by simp
theorem IG {w : World} {v u : Value} {l m : List UInt8} (h : By w v l) (h2 : By w u m) : wG (w.alloc (.cells #[v, u] 32)) (.slice (some ⟨w.heap.size, 0, none⟩) 2 2) [l, m] :=
 wG.new (vs := [v, u]) rfl (by decide) rfl fun i u m hu hm => by
  match i, hu, hm with
  | 0, hu, hm => simp at hu hm; subst hu hm; exact h
  | 1, hu, hm => simp at hu hm; subst hu hm; exact h2
theorem BF : Tryz.prog.elem 32 = 5 := by simp [Program.elem, adu]
theorem sH : Tryz.prog.underlying 32 = some (.slice (Tryz.prog.elem 32)) := by rw [BF]; exact adu
theorem o9 {w : World} {p : Option Addr} {n c : Nat} {l : List UInt8} (h : By w (.slice p n c) l) {k : Nat} (hk : k ≤ n) :
  ∃ q, (∀ W : World, (Instr.slice 32 (.slice p n c) (some (.int .i64 (k : Int))) none none).run prog W = .ok (.slice q (n - k) (c - k)) W) ∧ By w (.slice q (n - k) (c - k)) (l.drop k) := by
 have hn := h.len;obtain ⟨p', c', e, hl, hm, fI, hc⟩ := h;injection e with e1 e2 e3;subst e1 e3;refine ⟨if c = k then p else p.map (·.add k), fun W => ?_, ?_⟩
 ·rw [run_slice_l W 32 _ _ _ sH .i64 _ (by omega) (by omega), BF, Tryz.sizeOf5];have e4 : ((k : Int)).toNat = k := by omega
  simp only [e4, Result.andThen, sliced, Nat.mul_one]
 ·refine ⟨if c = k then p else p.map (·.add k), c - k, ?_, by rw [adg]; omega, by omega, ?_, fun a ea i x hx => ?_⟩
  ·rw [adg, hn.1]
  ·intro hq
   split at hq
   ·rename_i qs;omega
   ·rcases p with _ | a
    ·have := fI rfl;omega
    ·simp at hq
  ·rw [List.getElem?_drop] at hx;have bd := (acL.1 hx).1;rw [acO (by omega)] at ea;rcases p with _ | a0
   ·simp at ea
   ·simp only [ae6, adp] at ea;subst ea;have aaE : (a0.add k).add i = a0.add (k + i) := by
     unfold Addr.add;by_cases hk0 : k = 0 <;> by_cases hi : i = 0 <;> simp [hk0, hi, Nat.add_assoc]
    rw [aaE];exact hc a0 rfl _ x hx
theorem Ti {w : World} {p : Option Addr} {n c : Nat} {l : List UInt8} (h : By w (.slice p n c) l) {k : Nat} (hk : k ≤ n) : By w (.slice p k c) (l.take k) := by
 have hn := h.len;obtain ⟨p', c', e, hl, hm, fI, hc⟩ := h;injection e with e1 e2 e3;subst e1 e3;have sI : (l.take k).length = k := by rw [ac6]; omega
 refine ⟨p, c, by rw [sI], by omega, hm, fI, fun a ea i x hx => hc a ea i x ?_⟩;rw [List.getElem?_take] at hx
 split at hx
 ·exact hx
 ·cases hx
theorem Tj (W : World) (p : Option Addr) (n c k : Nat) (hk : k ≤ c) : (Instr.slice 32 (.slice p n c) none (some (.int .i64 (k : Int))) none).run prog W = .ok (.slice p k c) W := by
 rw [run_slice_h W 32 _ _ _ sH .i64 _ (by omega) (by omega), BF, Tryz.sizeOf5];have e4 : ((k : Int)).toNat = k := by omega
 rcases p with _ | a
 ·simp [Result.andThen, sliced, e4]
 ·by_cases hc : c = 0
  ·simp [Result.andThen, sliced, e4, hc]
  ·simp [Result.andThen, sliced, e4, Addr.add]
theorem F0 {w : World} {p : Option Addr} {n c : Nat} {l : List UInt8} (h : By w (.slice p n c) l) {j k : Nat} (Tk : j ≤ k) (hk : k ≤ n) :
  ∃ q, (∀ W : World, (Instr.slice 32 (.slice p n c) (some (.int .i64 (j : Int))) (some (.int .i64 (k : Int))) none).run prog W = .ok (.slice q (k - j) (c - j)) W) ∧ By w (.slice q (k - j) (c - j)) ((l.take k).drop j) := by
 have hn := h.len;obtain ⟨q, hr, hb⟩ := o9 (Ti h hk) Tk;refine ⟨if c = j then p else p.map (·.add j), fun W => ?_, ?_⟩
 ·rw [run_slice_lh W 32 _ _ _ sH .i64 .i64 _ _ (by omega) (by omega) (by omega), BF, Tryz.sizeOf5];have e4 : ((j : Int)).toNat = j := by omega
  have e5 : ((k : Int)).toNat = k := by omega
  simp only [e4, e5, Result.andThen, sliced, Nat.mul_one]
 ·have h2 := hr w;rw [run_slice_l w 32 _ _ _ sH .i64 _ (by omega) (by omega), BF, Tryz.sizeOf5] at h2;have e4 : ((j : Int)).toNat = j := by omega
  simp only [e4, Result.andThen, sliced, Nat.mul_one, Result.ok.injEq, Value.slice.injEq, and_true] at h2;rw [h2];exact hb
def rd : List UInt8 → Nat → Nat → Nat × Nat × Nat
 | [], _, _ => (0, 0, 2)
 | x :: r, i, n => if i = 0 ∧ x.toNat = 128 then (0, 0, 10) else if i = 9 then (0, 0, 5) else if x.toNat < 128 then (n * 128 + x.toNat % 128, i + 1, 0) else rd r (i + 1) (n * 128 + x.toNat % 128)
def aR (b : List UInt8) : Nat × Nat × Nat := rd b 0 0
theorem Lr {l : List UInt8} {i : Nat} {x : UInt8} (hx : l[i]? = some x) (n : Nat) :
  rd (l.drop i) i n = if i = 0 ∧ x.toNat = 128 then (0, 0, 10) else if i = 9 then (0, 0, 5) else if x.toNat < 128 then (n * 128 + x.toNat % 128, i + 1, 0) else rd (l.drop (i + 1)) (i + 1) (n * 128 + x.toNat % 128) := by
 have hi := (acL.1 hx).1;rw [adL hi, (acL.1 hx).2];rfl
theorem ED {l : List UInt8} {i : Nat} (hi : l.length ≤ i) (n : Nat) : rd (l.drop i) i n = (0, 0, 2) := by
 rw [aei hi];rfl
theorem aaF {k1 k2 k3 : IntKind} {a a' b b' c c' : Int} (h1 : a = a') (h2 : b = b') (h3 : c = c') : Ending.returned (.tuple #[.int k1 a, .int k2 b, .int k3 c]) = .returned (.tuple #[.int k1 a', .int k2 b', .int k3 c']) := by
 rw [h1, h2, h3]
theorem aaG {k1 k2 : IntKind} {a a' b b' : Int} (h1 : a = a') (h2 : b = b') : Ending.returned (.tuple #[.int k1 a, .int k2 b]) = .returned (.tuple #[.int k1 a', .int k2 b']) := by
 rw [h1, h2]
theorem Tl (x : UInt8) : bits BinOp.and IntKind.u8 (x.toNat : Int) 127 = ((x.toNat % 128 : Nat) : Int) := FZ ⟨x.toNat, x.toNat_lt⟩
theorem OL (z y : Nat) (hz : z < 128 ^ 8) (hy : y < 128) : bits BinOp.or IntKind.i64 ((z : Int) * 128) (y : Int) = ((z * 128 + y : Nat) : Int) := by
 have e : z * 128 + y = (z * 128) ||| y := by
  have := Nat.shiftLeft_add_eq_or_of_lt (i := 7) (b := y) (by omega) z;rw [Nat.shiftLeft_eq] at this;exact this
 have hx : (z * 128) ||| y < 9223372036854775808 := by rw [← e]; omega
 have e2 : ((z : Int) * 128) = ((z * 128 : Nat) : Int) := by omega
 rw [e, e2]
 show IntKind.i64.wrap ((BitVec.ofInt 64 ((z * 128 : Nat) : Int) ||| BitVec.ofInt 64 (y : Int)).toNat : Int) = _
 rw [BitVec.toNat_or, BitVec.ofInt_natCast, BitVec.ofInt_natCast, BitVec.toNat_ofNat, BitVec.toNat_ofNat, Nat.mod_eq_of_lt (by omega), Nat.mod_eq_of_lt (by omega), aeE];omega
theorem jQ {w : World} {v : Value} {l : List UInt8} (hv : By w v l) {N K E : Nat} (hR : aR l = (N, K, E)) :
  Calls prog 110 #[v] w fun e w' => e = .returned (.tuple #[.int .i64 N, .int .i64 K, .int .i64 E]) ∧ w = w' := by
 obtain ⟨p, m, c, rfl⟩ := hv.sl;obtain ⟨hm, _⟩ := hv.len;have Nu := hv.jZ;have HV := af hv;have HM := af hm;have HR := af hR;clear hv hm hR;go_enter func110, ntmps110
 go_wp2;go_loop [5, 6] (fun a i => ∃ k z : Nat, k ≤ 9 ∧ i = .int .i64 k ∧ a = .int .i64 z ∧ z < 128 ^ k ∧ rd (l.drop k) k z = (N, K, E)) (fun _ i => 10 - (intOf i).toNat)
 case atStart => exact ⟨0, 0, by omega, rfl, rfl, by omega, HR.out⟩
 case round =>
  obtain ⟨k, z, hk, rfl, rfl, hz, dk⟩ := hrel;have o0 := af dk;clear dk;by_cases EF : (k : Int) < (m : Int)
  ·obtain ⟨b, o, x, rfl, hx, hcell⟩ := HV.out.cellAt (k := k) (by omega);have dk := o0.out;rw [Lr hx] at dk;have Hg : (x.toNat : Int) < 256 := by have := x.toNat_lt; omega
   clear hx o0;have guard : (((k : Int) == 0) = true ∧ ((x.toNat : Int) == 128) = true ∧ k = 0 ∧ x.toNat = 128) ∨ ((((k : Int) == 0) = false ∨ (((k : Int) == 0) = true ∧ ((x.toNat : Int) == 128) = false)) ∧ ¬ (k = 0 ∧ x.toNat = 128)) := by
    by_cases h0 : k = 0
    ·by_cases h1 : x.toNat = 128
     ·exact .inl ⟨by simp; omega, by simp; omega, h0, h1⟩
     ·exact .inr ⟨.inr ⟨by simp; omega, by simp; omega⟩, fun h => h1 h.2⟩
    ·exact .inr ⟨.inl (by simp; omega), fun h => h0 h.1⟩
   rcases guard with ⟨g1, g2, h0, h1⟩ | ⟨g, fI⟩
   ·rw [acW ⟨h0, h1⟩] at dk;simp only [acT] at dk;obtain ⟨rfl, rfl, rfl⟩ := dk;clear h0 h1 HR;go_wp2;go_ret3
    exact ⟨rfl, rfl⟩
   ·rw [acO fI] at dk;by_cases h9 : k = 9
    ·rw [acW h9] at dk;simp only [acT] at dk;obtain ⟨rfl, rfl, rfl⟩ := dk;have g3 : ((k : Int) == 9) = true := by simp; omega
     clear h9 fI HR;rcases g with g | ⟨g, g2⟩;all_goals
      go_wp2;go_ret3
      exact ⟨rfl, rfl⟩
    ·rw [acO h9] at dk;have g3 : ((k : Int) == 9) = false := by simp; omega
     have Tm : z < 128 ^ 8 := acV hz (aeV (by decide) (by omega));have aaH : (z : Int) ≤ 72057594037927935 := by omega
     have Xi : z * 128 + x.toNat % 128 < 128 ^ (k + 1) := by rw [Nat.pow_succ]; omega
     have Xj : k + 1 ≤ 9 := by omega
     have Tn := af Xi;clear hz Tm Xi h9 fI HR;by_cases bd : (x.toNat : Int) < 128
     ·rw [acW (by omega)] at dk;simp only [acT] at dk;obtain ⟨rfl, rfl, rfl⟩ := dk;rcases g with g | ⟨g, g2⟩;all_goals
       go_wp2;go_ret3
       exact ⟨aaF (by omega) (by omega) rfl, rfl⟩
     ·rw [acO (by omega)] at dk;have o0 := af dk;clear dk;rcases g with g | ⟨g, g2⟩;all_goals
       go_wp2;go_round
       case rel => exact ⟨k + 1, z * 128 + x.toNat % 128, Xj, by go_num, by go_num, Tn.out, o0.out⟩
       case measure => simp [intOf]; omega
  ·have dk := o0.out;rw [ED (by have := HM.out; omega)] at dk;simp only [acT] at dk;obtain ⟨rfl, rfl, rfl⟩ := dk;clear HR o0;go_wp2;go_ret3
   exact ⟨rfl, rfl⟩
theorem bL {w w' : World} {row : Option Nat} (h : w.grownBy w' row) (n : Nat) : w.grownBy (w'.drewN n) row := ⟨h.os, h.tape, h.output, h.size, h.block⟩
def OM (w : World) (g t : Nat) (cs : Array Value) (at_ N K E : Nat) (e : Ending) (w' : World) : Prop :=
 e = .returned (.tuple #[.int .i64 N, .int .i64 E]) ∧ w'.heap[g]? = some (.cells (cs.setIfInBounds 1 (.int .i64 ((at_ + K : Nat) : Int))) t (0, 0)) ∧ w.grownBy w' (some g)
theorem tK {w : World} {g t : Nat} {cs : Array Value} {p : Option Addr} {n c at_ : Nat} {l : List UInt8} (hB : w.heap[g]? = some (.cells cs t (0, 0))) (h0 : cs[0]? = some (.slice p n c)) (h1 : cs[1]? = some (.int .i64 (at_ : Int)))
  (gZ : By w (.slice p n c) l) (aG : at_ ≤ n) {N K E : Nat} (hR : aR (l.drop at_) = (N, K, E)) :
  Calls prog 142 #[.pointer (some ⟨g, 0, none⟩)] w (OM w g t cs at_ N K E) := by
 obtain ⟨q, hcut, hr⟩ := o9 gZ aG;have Xk : (at_ : Int) ≤ (n : Int) := by omega
 have Nu := gZ.jZ;obtain ⟨m, hm⟩ : ∃ m, n - at_ = m := ⟨_, rfl⟩
 obtain ⟨d, hd⟩ : ∃ d, c - at_ = d := ⟨_, rfl⟩
 rw [hm, hd] at hr;simp only [hm, hd] at hcut;have hmn : m + at_ ≤ n := by omega
 obtain ⟨r, o_⟩ : ∃ r, l.drop at_ = r := ⟨_, rfl⟩
 rw [o_] at hr hR;have II : w.cell? ⟨g, 0, none⟩ = some (.slice p n c) := by rw [acC w g 0 cs t (0, 0) hB]; exact h0
 have zw : w.cell? ⟨g, 1, none⟩ = some (.int .i64 (at_ : Int)) := by rw [acC w g 1 cs t (0, 0) hB]; exact h1
 have U5 := acI w g 1 cs t hB;have rW := af h1;have HB := af hB;have oO := af hr;have HR := af hR;have HM := af hr.len.1;clear hB h0 h1 gZ hr hR hm hd o_;have QW : cs.setIfInBounds 1 (.int .i64 ((at_ + 0 : Nat) : Int)) = cs := by
  rw [Nat.add_zero];apply Array.ext
  ·simp
  ·intro i h1 h2;rw [Array.getElem_setIfInBounds h2]
   split
   ·rename_i hi;subst hi;have := rW.out;rw [Array.getElem?_eq_getElem h2] at this;injection this with this;exact this.symm
   ·rfl
 have IB := af QW;clear QW rW;by_cases Vt : (0 : Int) < (m : Int)
 ·obtain ⟨b, o, x, rfl, hx, hcell⟩ := oO.out.cellAt (k := 0) (by omega);rw [Nat.add_zero] at hcell;by_cases OO : x.toNat = 128
  ·have g1 : ((x.toNat : Int) == 128) = true := by simp; omega
   have dk := HR.out;unfold aR at dk;rw [← afc (l := r), Lr hx, acW ⟨rfl, OO⟩] at dk;simp only [acT] at dk;obtain ⟨rfl, rfl, rfl⟩ := dk;clear hx OO HR;go_enter func142, ntmps142
   go_wp2;go_quiet (fail)
   go_wp2;go_ret2
   exact ⟨rfl, by rw [IB.out]; exact HB.out, bL (adk w _) _⟩
  ·have g1 : ((x.toNat : Int) == 128) = false := by simp; omega
   have HX := af hx;have aaI := af OO;clear hx OO;go_enter func142, ntmps142
   go_wp2;go_quiet (fail)
   go_wp2;clear hcell II g1;go_loop [5, 6, 7, 28] (fun a _ _ i => ∃ k z : Nat, k ≤ 9 ∧ i = .int .i64 k ∧ a = .int .i64 z ∧ z < 128 ^ k ∧ rd (r.drop k) k z = (N, K, E)) (fun _ _ _ i => 10 - (intOf i).toNat)
   case atStart => exact ⟨0, 0, by omega, rfl, rfl, by omega, HR.out⟩
   case round =>
    obtain ⟨k, z, hk, rfl, rfl, hz, dk⟩ := hrel;have o0 := af dk;clear dk HR;by_cases EF : (k : Int) < (m : Int)
    ·obtain ⟨b2, o2, y, e2, hy, hcell⟩ := oO.out.cellAt (k := k) (by omega);injection e2 with e2;injection e2 with e2 e3;subst e2 e3;have dk := o0.out;rw [Lr hy] at dk;have fI : ¬ (k = 0 ∧ y.toNat = 128) := by
      rintro ⟨rfl, h2⟩;have := HX.out;rw [hy] at this;injection this with this;subst this;exact aaI.out h2
     rw [acO fI] at dk;have hyl : (y.toNat : Int) < 256 := by have := y.toNat_lt; omega
     clear hy o0 fI;by_cases h9 : k = 9
     ·rw [acW h9] at dk;simp only [acT] at dk;obtain ⟨rfl, rfl, rfl⟩ := dk;have g3 : ((k : Int) == 9) = true := by simp; omega
      clear h9;go_wp2;go_ret2
      exact ⟨rfl, by rw [IB.out]; exact HB.out, bL (adk w _) _⟩
     ·rw [acO h9] at dk;have g3 : ((k : Int) == 9) = false := by simp; omega
      have Tm : z < 128 ^ 8 := acV hz (aeV (by decide) (by omega));have aaH : (z : Int) ≤ 72057594037927935 := by omega
      have Xi : z * 128 + y.toNat % 128 < 128 ^ (k + 1) := by rw [Nat.pow_succ]; omega
      have Xj : k + 1 ≤ 9 := by omega
      have ea := Tl y;have eo : bits BinOp.or IntKind.i64 ((z : Int) * 128) ((y.toNat : Int) % 128) = ((z * 128 + y.toNat % 128 : Nat) : Int) := by
       rw [show ((y.toNat : Int) % 128) = ((y.toNat % 128 : Nat) : Int) by omega];exact OL z (y.toNat % 128) Tm (by omega)
      have HEO := af eo;clear eo;have Tn := af Xi;clear hz Tm Xi h9;by_cases bd : (y.toNat : Int) < 128
      ·rw [acW (by omega)] at dk;simp only [acT] at dk;obtain ⟨rfl, rfl, rfl⟩ := dk;have j_ : (at_ : Int) + ((k : Int) + 1) ≤ 9223372036854775807 := by omega
       go_wp2;go_ret2
       refine ⟨aaG HEO.out rfl, ?_, ?_⟩
       ·have h := acK (w.drewN nq) g 1 cs t (.int .i64 ((at_ : Int) + ((k : Int) + 1))) HB.out;rw [h];have e : (at_ : Int) + ((k : Int) + 1) = ((at_ + (k + 1) : Nat) : Int) := by omega
        rw [e]
       ·exact ⟨rfl, rfl, rfl, by simp [World.setCell, World.drewN], fun i _ hi => adf (w.drewN nq) ⟨g, 1, none⟩ i _ (fun e => hi (by rw [e]))⟩
      ·rw [acO (by omega)] at dk;have o0 := af dk;clear dk;go_wp2;go_round
       case rel => exact ⟨k + 1, z * 128 + y.toNat % 128, Xj, by go_num, by rw [HEO.out], Tn.out, o0.out⟩
       case measure => simp [intOf]; omega
    ·have dk := o0.out;rw [ED (by have := HM.out; omega)] at dk;simp only [acT] at dk;obtain ⟨rfl, rfl, rfl⟩ := dk;clear o0;go_wp2;go_ret2
     exact ⟨rfl, by rw [IB.out]; exact HB.out, bL (adk w _) _⟩
 ·have dk := HR.out;unfold aR at dk;rw [← afc (l := r), ED (by have := HM.out; omega)] at dk;simp only [acT] at dk;obtain ⟨rfl, rfl, rfl⟩ := dk;clear HR;go_enter func142, ntmps142
  go_wp2;go_quiet (fail)
  go_wp2;refine wp_loop_rounds 1 ?_;rw [rounds_succ];go_wp2;go_ret2
  exact ⟨rfl, by rw [IB.out]; exact HB.out, bL (adk w _) _⟩
theorem pd (x : UInt8) (r : List UInt8) (i n : Nat) :
  rd (x :: r) i n = if i = 0 ∧ x.toNat = 128 then (0, 0, 10) else if i = 9 then (0, 0, 5) else if x.toNat < 128 then (n * 128 + x.toNat % 128, i + 1, 0) else rd r (i + 1) (n * 128 + x.toNat % 128) := rfl
theorem QX {x : UInt8} {k : Nat} (h : k < 256) (e : x.toNat = k) : x = UInt8.ofNat k := by
 apply UInt8.toNat_inj.1;rw [e];simp;omega
theorem ofNat_toNat {k : Nat} (h : k < 256) : (UInt8.ofNat k).toNat = k := by simp; omega
theorem F1 : ∀ (l : List UInt8) (i z : Nat), i ≤ 9 → (z = 0 ↔ i = 0) → z < 128 ^ i → ∀ {n k : Nat}, rd l i z = (n, k, 0) → i ≤ k ∧ k ≤ 9 ∧ k - i ≤ l.length ∧ hi z ++ l.take (k - i) = digits n ∧ n < 128 ^ k
 | [], i, z, _, _, _, n, k, h => by simp [rd] at h
 | x :: r, i, z, F2, hz, hb, n, k, h => by
  rw [pd] at h;have Hg := x.toNat_lt
  split at h
  ·simp at h
  ·rename_i fI
   split at h
   ·simp at h
   ·rename_i h9
    split at h
    ·rename_i bd;simp only [acT, and_true] at h;obtain ⟨rfl, rfl⟩ := h;refine ⟨by omega, by omega, by simp, ?_, ?_⟩
     ·rw [show i + 1 - i = 1 by omega];unfold digits;have e1 : (z * 128 + x.toNat % 128) / 128 = z := by omega
      have e2 : (z * 128 + x.toNat % 128) % 128 = x.toNat := by omega
      rw [e1, e2, ← QX (by omega) rfl];rfl
     ·rw [Nat.pow_succ]; omega
    ·rename_i hge;have e1 : (z * 128 + x.toNat % 128) / 128 = z := by omega
     have e2 : (z * 128 + x.toNat % 128) % 128 + 128 = x.toNat := by omega
     have Vu : z * 128 + x.toNat % 128 ≠ 0 := by
      intro h0;have gu : z = 0 := by omega
      exact fI ⟨hz.1 gu, by omega⟩
     obtain ⟨g1, g2, g3, g4, g5⟩ := F1 r (i + 1) (z * 128 + x.toNat % 128) (by omega) ⟨fun h => absurd h Vu, fun h => by omega⟩ (by rw [Nat.pow_succ]; omega) h;refine ⟨by omega, g2, by simp; omega, ?_, g5⟩;rw [qo Vu, e1, e2, ← QX (by omega) rfl] at g4;rw [show k - i = (k - (i + 1)) + 1 by omega, List.take_succ_cons, ← g4];simp
theorem k_ {l : List UInt8} {n k : Nat} (h : aR l = (n, k, 0)) : k ≤ l.length ∧ k ≤ 9 ∧ l.take k = digits n ∧ n < 128 ^ k := by
 obtain ⟨_, g2, g3, g4, g5⟩ := F1 l 0 0 (by omega) ⟨fun _ => rfl, fun _ => rfl⟩ (by decide) h;rw [m_, Nat.sub_zero] at g4;exact ⟨by omega, g2, by simpa using g4, g5⟩
theorem Xl : ∀ (m : Nat) (s : List UInt8), (hi m).length ≤ 9 → rd (hi m ++ s) 0 0 = rd s (hi m).length m := by
 intro m
 induction m using Nat.strongRecOn with
 | _ m ih =>
  intro s hl;by_cases h0 : m = 0
  ·subst h0;rw [m_];rfl
  ·have hp := qo h0;have hlen : (hi m).length = (hi (m / 128)).length + 1 := by rw [hp]; simp
   rw [hp, ac7, ih (m / 128) (by omega) _ (by omega), List.singleton_append, pd];have hx : (UInt8.ofNat (m % 128 + 128)).toNat = m % 128 + 128 := ofNat_toNat (by omega);rw [hx, acO, acO (by omega), acO (by omega)]
   ·have e : m / 128 * 128 + (m % 128 + 128) % 128 = m := by omega
    rw [e, ← hp, hlen]
   ·rintro ⟨h1, h2⟩;have : m / 128 = 0 := by
     by_cases hq : m / 128 = 0
     ·exact hq
     ·have := qo hq;rw [this] at h1;simp at h1
    omega
theorem OP {n : Nat} (h : n < 9223372036854775808) : (hi (n / 128)).length ≤ 8 := xE (n / 128) 8 (by omega)
theorem jl {n : Nat} (h : n < 9223372036854775808) (r : List UInt8) : aR (digits n ++ r) = (n, (digits n).length, 0) := by
 have h8 := OP h;unfold aR digits;rw [ac7, Xl _ _ (by omega), List.singleton_append, pd];have hx : (UInt8.ofNat (n % 128)).toNat = n % 128 := ofNat_toNat (by omega);rw [hx, acO (by omega), acO (by omega), acW (by omega)];have e : n / 128 * 128 + n % 128 % 128 = n := by omega
 rw [e];simp
structure Sp where
 t : Int
 i : Int
 p : Int
 s : Int
 e : Int
 n : ByteArray
deriving DecidableEq
instance : Inhabited Sp := ⟨⟨0, 0, 0, 0, 0, ByteArray.empty⟩⟩
def Sp.nl (x : Sp) : List UInt8 := x.n.data.toList
def gq (c : UInt8) : Bool := decide (33 ≤ c.toNat) && decide (c.toNat ≤ 126)
def kZ (l : List UInt8) : Bool := decide (1 ≤ l.length) && decide (l.length ≤ 32) && l.all gq
def pe (x : Sp) : Bool := decide (1 ≤ x.t) && decide (x.t ≤ 1099511627776) && (decide (1 ≤ x.i) && decide (x.i ≤ 1099511627776)) && (decide (0 ≤ x.p) && decide (x.p ≤ 1099511627776)) && !decide (x.p = x.i)
def tL (x : Sp) : Bool := decide (0 ≤ x.s) && decide (x.s ≤ x.e) && decide (x.e ≤ 1099511627776)
def Sp.ok (x : Sp) : Bool := pe x && tL x && kZ x.nl
structure Sp.Ok (x : Sp) : Prop where
 t1 : 1 ≤ x.t
 t2 : x.t ≤ 1099511627776
 i1 : 1 ≤ x.i
 i2 : x.i ≤ 1099511627776
 p1 : 0 ≤ x.p
 p2 : x.p ≤ 1099511627776
 s1 : 0 ≤ x.s
 s2 : x.s ≤ x.e
 e2 : x.e ≤ 1099511627776
 ne : x.p ≠ x.i
 n1 : 1 ≤ x.nl.length
 n2 : x.nl.length ≤ 32
 n3 : x.nl.all gq = true
theorem Sp.aO (x : Sp) : x.ok = true ↔ x.Ok := by
 unfold Sp.ok pe tL kZ;simp only [adb, adr, aew, ae9];constructor
 ·rintro ⟨⟨⟨⟨⟨⟨a, b⟩, c, d⟩, e, f⟩, g⟩, ⟨h, i⟩, j⟩, ⟨k, l⟩, m⟩;exact ⟨a, b, c, d, e, f, h, i, j, g, k, l, m⟩
 ·rintro ⟨a, b, c, d, e, f, h, i, j, g, k, l, m⟩;exact ⟨⟨⟨⟨⟨⟨a, b⟩, c, d⟩, e, f⟩, g⟩, ⟨h, i⟩, j⟩, ⟨k, l⟩, m⟩
def Sp.bytes (x : Sp) : List UInt8 := digits x.t.toNat ++ (digits x.i.toNat ++ (digits x.p.toNat ++ (digits x.s.toNat ++ (digits (x.e - x.s).toNat ++ (digits x.nl.length ++ x.nl)))))
def cN (l : List Sp) : List UInt8 := digits l.length ++ (l.map Sp.bytes).flatten
theorem OQ : ∀ (l : List UInt8) (i z : Nat) {n k e : Nat}, rd l i z = (n, k, e) → e ≠ 0 → n = 0
 | [], i, z, n, k, e, h, he => by simp only [rd, acT] at h; omega
 | x :: r, i, z, n, k, e, h, he => by
  rw [pd] at h
  split at h
  ·simp only [acT] at h; omega
  ·split at h
   ·simp only [acT] at h; omega
   ·split at h
    ·simp only [acT] at h; omega
    ·exact OQ r _ _ h he
def nx (l : List UInt8) (st : Nat × Nat) : Nat × Nat × Nat :=
 if st.2 ≠ 0 then (0, st.1, st.2) else ((aR (l.drop st.1)).1, st.1 + (aR (l.drop st.1)).2.1, (aR (l.drop st.1)).2.2)
theorem fN {l : List UInt8} {st : Nat × Nat} {n a : Nat} (h : nx l st = (n, a, 0)) (hl : st.1 ≤ l.length) : st.2 = 0 ∧ st.1 ≤ a ∧ a ≤ l.length ∧ l.drop st.1 = digits n ++ l.drop a ∧ n < 9223372036854775808 := by
 unfold nx at h
 split at h
 ·rename_i h0;simp only [acT] at h;exact absurd h.2.2 h0
 ·rename_i h0;simp only [acT] at h;obtain ⟨h1, h2, h3⟩ := h;obtain ⟨n', k, e', hR⟩ : ∃ n k e, aR (l.drop st.1) = (n, k, e) := ⟨_, _, _, rfl⟩
  rw [hR] at h1 h2 h3;dsimp only at h1 h2 h3;subst h1 h3;obtain ⟨g1, g2, g3, g4⟩ := k_ hR;rw [adg] at g1;refine ⟨by omega, by omega, by omega, ?_, acV g4 (acN (aeV (by decide) g2) (by decide))⟩;rw [← g3, ← h2, ← List.drop_drop, aeb]
theorem au {l : List UInt8} {a n : Nat} {r : List UInt8} (hn : n < 9223372036854775808) (h : l.drop a = digits n ++ r) : nx l (a, 0) = (n, a + (digits n).length, 0) := by
 unfold nx;rw [acO (by simp), h, jl hn]
theorem ai {l : List UInt8} {a : Nat} {x r : List UInt8} (h : l.drop a = x ++ r) : l.drop (a + x.length) = r := by
 rw [← List.drop_drop, h, List.drop_left]
def tx (l : List UInt8) (most : Nat) (st : Nat × Nat) : List UInt8 × Nat × Nat :=
 if st.2 ≠ 0 then ([], st.1, st.2)
 else if (aR (l.drop st.1)).2.2 ≠ 0 then ([], st.1, (aR (l.drop st.1)).2.2)
 else if most < (aR (l.drop st.1)).1 then ([], st.1, 4)
 else if l.length < st.1 + (aR (l.drop st.1)).2.1 + (aR (l.drop st.1)).1 then ([], st.1, 2)
 else ((l.drop (st.1 + (aR (l.drop st.1)).2.1)).take (aR (l.drop st.1)).1, st.1 + (aR (l.drop st.1)).2.1 + (aR (l.drop st.1)).1, 0)
theorem Tp {l : List UInt8} {most : Nat} {st : Nat × Nat} {x : List UInt8} {a e : Nat} (h : tx l most st = (x, a, e)) (he : e ≠ 0) : x = [] := by
 unfold tx at h
 split at h
 ·simp only [acT] at h; exact h.1.symm
 ·split at h
  ·simp only [acT] at h; exact h.1.symm
  ·split at h
   ·simp only [acT] at h; exact h.1.symm
   ·split at h
    ·simp only [acT] at h; exact h.1.symm
    ·simp only [acT] at h; exact absurd h.2.2.symm he
theorem zx {l : List UInt8} {most : Nat} {st : Nat × Nat} {x : List UInt8} {a : Nat} (h : tx l most st = (x, a, 0)) (hl : st.1 ≤ l.length) : st.2 = 0 ∧ st.1 ≤ a ∧ a ≤ l.length ∧ l.drop st.1 = digits x.length ++ (x ++ l.drop a) ∧ x.length ≤ most := by
 unfold tx at h
 split at h
 ·rename_i h0;simp only [acT] at h; exact absurd h.2.2 h0
 ·rename_i h0;obtain ⟨n, k, e, hR⟩ : ∃ n k e, aR (l.drop st.1) = (n, k, e) := ⟨_, _, _, rfl⟩
  rw [hR] at h;dsimp only at h
  split at h
  ·rename_i h1;simp only [acT] at h; exact absurd h.2.2 h1
  ·rename_i h1;have he : e = 0 := by omega
   subst he
   split at h
   ·simp at h
   ·rename_i h2
    split at h
    ·simp at h
    ·rename_i h3;simp only [acT, and_true] at h;obtain ⟨hx, ha⟩ := h;obtain ⟨g1, g2, g3, g4⟩ := k_ hR;rw [adg] at g1;have Hg : x.length = n := by rw [← hx, ac6, adg]; omega
     refine ⟨by omega, by omega, by omega, ?_, by omega⟩;have q1 : l.drop a = ((l.drop st.1).drop k).drop n := by rw [List.drop_drop, List.drop_drop, ← ha, Nat.add_assoc]
     have q2 : l.drop (st.1 + k) = (l.drop st.1).drop k := by rw [List.drop_drop]
     rw [Hg, ← hx, q2, q1, ← g3, aeb, aeb]
theorem IJ {l : List UInt8} {most a : Nat} {x r : List UInt8} (hx : x.length ≤ most) (hm : most < 1000) (ha : a ≤ l.length) (h : l.drop a = digits x.length ++ (x ++ r)) : tx l most (a, 0) = (x, a + (digits x.length).length + x.length, 0) := by
 have hl := aec List.length h;rw [adg, acH, acH] at hl;unfold tx;rw [acO (by simp)];dsimp only;rw [h, jl (by omega)];dsimp only;rw [acO (by simp), acO (by omega), acO (by omega), ai h, List.take_left]
def tM (a b : Nat) : Int := IntKind.i64.wrap ((a : Int) + (b : Int))
def bM (l : List UInt8) (st : Nat × Nat) : Sp × Nat × Nat :=
 let r1 := nx l st
 let r2 := nx l r1.2
 let r3 := nx l r2.2
 let r4 := nx l r3.2
 let r5 := nx l r4.2
 let r6 := tx l 32 r5.2
 (⟨r1.1, r2.1, r3.1, r4.1, tM r4.1 r5.1, ⟨r6.1.toArray⟩⟩, r6.2)
theorem BG {a b : Nat} (ha : a < 9223372036854775808) (hb : b < 9223372036854775808) (h : 9223372036854775808 ≤ a + b) : tM a b < (a : Int) := by
 unfold tM;rw [aeE];omega
theorem lg {a b : Nat} (h : a + b < 9223372036854775808) : tM a b = (a : Int) + (b : Int) := by
 unfold tM;rw [aeE];omega
theorem QY (x : List UInt8) (a b c d e : Int) : Sp.nl ⟨a, b, c, d, e, ⟨x.toArray⟩⟩ = x := by simp [Sp.nl]
theorem tN {l : List UInt8} {a : Nat} {x : Sp} {st : Nat × Nat} (h : bM l (a, 0) = (x, st)) (hl : a ≤ l.length) (hx : x.ok = true) :
  st.2 = 0 ∧ a < st.1 ∧ st.1 ≤ l.length ∧ l.drop a = x.bytes ++ l.drop st.1 := by
 rw [Sp.aO] at hx;unfold bM at h;obtain ⟨n1, a1, e1, h1⟩ : ∃ n a' e, nx l (a, 0) = (n, a', e) := ⟨_, _, _, rfl⟩
 rw [h1] at h; dsimp only at h;obtain ⟨n2, a2, e2, h2⟩ : ∃ n a e, nx l (a1, e1) = (n, a, e) := ⟨_, _, _, rfl⟩
 rw [h2] at h; dsimp only at h;obtain ⟨n3, a3, e3, h3⟩ : ∃ n a e, nx l (a2, e2) = (n, a, e) := ⟨_, _, _, rfl⟩
 rw [h3] at h; dsimp only at h;obtain ⟨n4, a4, e4, h4⟩ : ∃ n a e, nx l (a3, e3) = (n, a, e) := ⟨_, _, _, rfl⟩
 rw [h4] at h; dsimp only at h;obtain ⟨n5, a5, e5, h5⟩ : ∃ n a e, nx l (a4, e4) = (n, a, e) := ⟨_, _, _, rfl⟩
 rw [h5] at h; dsimp only at h;obtain ⟨x6, a6, e6, h6⟩ : ∃ n a e, tx l 32 (a5, e5) = (n, a, e) := ⟨_, _, _, rfl⟩
 rw [h6] at h; dsimp only at h;simp only [acT] at h;obtain ⟨rfl, rfl⟩ := h;have zy := hx.n1;rw [QY] at zy;have E6 : e6 = 0 := by
  by_cases he : e6 = 0
  ·exact he
  ·rw [Tp h6 he] at zy;simp at zy
 subst E6;have aL : a5 ≤ l.length → e5 = 0 ∧ _ := fun q => zx h6 q;have E5 : e5 = 0 := by
  by_cases he : e5 = 0
  ·exact he
  ·exfalso;unfold tx at h6;rw [acW he] at h6;simp only [acT] at h6;exact he h6.2.2
 subst E5;have E4 : e4 = 0 := by
  by_cases he : e4 = 0
  ·exact he
  ·exfalso;unfold nx at h5;rw [acW he] at h5;simp only [acT] at h5;exact he h5.2.2
 subst E4;have E3 : e3 = 0 := by
  by_cases he : e3 = 0
  ·exact he
  ·exfalso;unfold nx at h4;rw [acW he] at h4;simp only [acT] at h4;exact he h4.2.2
 subst E3;have E2 : e2 = 0 := by
  by_cases he : e2 = 0
  ·exact he
  ·exfalso;unfold nx at h3;rw [acW he] at h3;simp only [acT] at h3;exact he h3.2.2
 subst E2;have E1 : e1 = 0 := by
  by_cases he : e1 = 0
  ·exact he
  ·exfalso;unfold nx at h2;rw [acW he] at h2;simp only [acT] at h2;exact he h2.2.2
 subst E1;obtain ⟨-, b1, c1, d1, l1⟩ := fN h1 hl;obtain ⟨-, b2, c2, d2, l2⟩ := fN h2 c1;obtain ⟨-, b3, c3, d3, l3⟩ := fN h3 c2;obtain ⟨-, b4, c4, d4, l4⟩ := fN h4 c3;obtain ⟨-, b5, c5, d5, l5⟩ := fN h5 c4;obtain ⟨-, b6, c6, d6, l6⟩ := zx h6 c5;dsimp only at *;have eF : (n4 : Int) ≤ tM n4 n5 := hx.s2;have bd : n4 + n5 < 9223372036854775808 := by
  by_cases hh : n4 + n5 < 9223372036854775808
  ·exact hh
  ·have := BG l4 l5 (by omega);omega
 have hs := lg bd;refine ⟨rfl, ?_, c6, ?_⟩
 ·have e6 := aec List.length d6;rw [adg, acH, acH, adg] at e6;omega
 ·unfold Sp.bytes;rw [QY];dsimp only;rw [hs, show ((n4 : Int) + (n5 : Int) - (n4 : Int)).toNat = n5 by omega, Int.toNat_natCast, Int.toNat_natCast, Int.toNat_natCast, Int.toNat_natCast];rw [d1, d2, d3, d4, d5, d6];simp only [ac7]
theorem me {l : List UInt8} {a : Nat} {x : Sp} {r : List UInt8} (hl : a ≤ l.length) (hx : x.ok = true) (h : l.drop a = x.bytes ++ r) : bM l (a, 0) = (x, a + x.bytes.length, 0) := by
 rw [Sp.aO] at hx;have pX := hx;obtain ⟨t1, t2, i1, i2, p1, p2, s1, s2, e2, ne, n1, n2, n3⟩ := pX;have hlen := aec List.length h;rw [adg, acH] at hlen;unfold Sp.bytes at h;simp only [ac7] at h;have h1 := au (by omega) h;have g1 := ai h;have h2 := au (by omega) g1;have g2 := ai g1;have h3 := au (by omega) g2;have g3 := ai g2;have h4 := au (by omega) g3;have g4 := ai g3;have h5 := au (by omega) g4;have g5 := ai g4;have xu : x.bytes.length = (digits x.t.toNat).length + ((digits x.i.toNat).length + ((digits x.p.toNat).length + ((digits x.s.toNat).length + ((digits (x.e - x.s).toNat).length + ((digits x.nl.length).length + x.nl.length))))) := by
  unfold Sp.bytes;simp only [acH]
 have h6 := IJ (most := 32) n2 (by omega) (by omega) g5;unfold bM;rw [h1]; dsimp only;rw [h2]; dsimp only;rw [h3]; dsimp only;rw [h4]; dsimp only;rw [h5]; dsimp only;rw [h6]; dsimp only;rw [lg (by omega)];have q1 : ((x.t.toNat : Nat) : Int) = x.t := by omega
 have q2 : ((x.i.toNat : Nat) : Int) = x.i := by omega
 have q3 : ((x.p.toNat : Nat) : Int) = x.p := by omega
 have q4 : ((x.s.toNat : Nat) : Int) = x.s := by omega
 have q5 : x.s + (((x.e - x.s).toNat : Nat) : Int) = x.e := by omega
 have q6 : (⟨x.nl.toArray⟩ : ByteArray) = x.n := by simp [Sp.nl]
 rw [q1, q2, q3, q4, q5, q6];simp only [acT, and_true];refine ⟨aev, ?_⟩;rw [xu];omega
def mg (l : List UInt8) : Nat → Nat × Nat → Option (List Sp × Nat × Nat)
 | 0, st => some ([], st)
 | k + 1, st => if (bM l st).1.ok then (mg l k (bM l st).2).map fun r => ((bM l st).1 :: r.1, r.2) else none
def eT (l : List UInt8) : List Sp × Nat :=
 match mg l (nx l (0, 0)).1 (nx l (0, 0)).2 with
 | none => ([], 30)
 | some (r, a, e) => if e = 0 ∧ a = l.length then (r, 0) else ([], 30)
theorem Ls {l : List UInt8} : ∀ {k : Nat} {a e : Nat} {r : List Sp} {st : Nat × Nat}, e ≠ 0 → mg l k (a, e) = some (r, st) → st.2 ≠ 0
 | 0, a, e, r, st, he, h => by
  simp only [mg, adp, acT] at h;rw [← h.2];exact he
 | k + 1, a, e, r, st, he, h => by
  exfalso;rw [mg] at h
  split at h
  ·rename_i aT;rw [Sp.aO] at aT;have hn := aT.t1;have hz : (bM l (a, e)).1.t = 0 := by
    unfold bM nx;dsimp only;rw [acW he];rfl
   omega
  ·cases h
theorem xH {l : List UInt8} : ∀ {k a : Nat} {r : List Sp} {st : Nat × Nat}, a ≤ l.length → mg l k (a, 0) = some (r, st) → st.2 = 0 ∧ a ≤ st.1 ∧ st.1 ≤ l.length ∧ r.length = k ∧ (∀ x ∈ r, Sp.ok x = true) ∧ l.drop a = (r.map Sp.bytes).flatten ++ l.drop st.1
 | 0, a, r, st, ha, h => by
  simp only [mg, adp, acT] at h;obtain ⟨rfl, rfl⟩ := h;exact ⟨rfl, acE _, ha, rfl, (fun x hx => by cases hx), by simp⟩
 | k + 1, a, r, st, ha, h => by
  rw [mg] at h;obtain ⟨x, a1, e1, hN⟩ : ∃ x a1 e1, bM l (a, 0) = (x, a1, e1) := ⟨_, _, _, rfl⟩
  rw [hN] at h;dsimp only at h
  split at h
  ·rename_i aT;obtain ⟨E, b, c, d⟩ := tN hN ha aT;dsimp only at E b c d;subst E;cases hg : mg l k (a1, 0) with
   | none => rw [hg] at h; cases h
   | some q =>
    rw [hg] at h;simp only [ae6, adp, acT] at h;obtain ⟨rfl, rfl⟩ := h;obtain ⟨f1, f2, f3, f4, f5, f6⟩ := xH (r := q.1) (st := q.2) c hg;refine ⟨f1, by omega, f3, by simp [f4], ?_, ?_⟩
    ·intro y hy;rcases ac9.1 hy with rfl | hy
     ·exact aT
     ·exact f5 y hy
    ·rw [d, f6];simp
  ·cases h
theorem tO {l : List UInt8} : ∀ (r : List Sp) {a : Nat} {z : List UInt8}, a ≤ l.length → (∀ x ∈ r, Sp.ok x = true) → l.drop a = (r.map Sp.bytes).flatten ++ z → mg l r.length (a, 0) = some (r, a + (r.map Sp.bytes).flatten.length, 0)
 | [], a, z, _, _, _ => rfl
 | x :: r, a, z, ha, aT, h => by
  have hx := aT x (by simp);rw [ad7, aej, ac7] at h;have hlen := aec List.length h;rw [adg, acH, acH] at hlen;have hN := me ha hx h;rw [acZ, mg, hN];dsimp only;rw [acW hx, tO r (by omega) (fun y hy => aT y (by simp [hy])) (ai h)];simp [Nat.add_assoc]
def pg (l : List UInt8) (r : List Sp) (e : Nat) : Prop := (e = 0 ∧ (∀ x ∈ r, Sp.ok x = true) ∧ cN r = l) ∨ (e = 30 ∧ r = [] ∧ ∀ m : List Sp, m.length < 9223372036854775808 → (∀ x ∈ m, Sp.ok x = true) → cN m ≠ l)
theorem ku (m : List Sp) (hm : m.length < 9223372036854775808) (aT : ∀ x ∈ m, Sp.ok x = true) : eT (cN m) = (m, 0) := by
 have h0 : (cN m).drop 0 = digits m.length ++ (m.map Sp.bytes).flatten := rfl;have h1 := au hm h0;have g1 := ai h0;have hl : (cN m).length = (digits m.length).length + (m.map Sp.bytes).flatten.length := by unfold cN; rw [acH]
 unfold eT;rw [h1];dsimp only;rw [tO m (z := []) (by omega) aT (by rw [g1, adh])];dsimp only;rw [acW ⟨rfl, by omega⟩]
theorem sJ (l : List UInt8) : pg l (eT l).1 (eT l).2 := by
 have fI : eT l = ([], 30) → pg l (eT l).1 (eT l).2 := by
  intro h;rw [h];refine .inr ⟨rfl, rfl, fun m hm aT e => ?_⟩;rw [← e, ku m hm aT] at h;simp at h
 obtain ⟨n, a, e, hN⟩ : ∃ n a e, nx l (0, 0) = (n, a, e) := ⟨_, _, _, rfl⟩
 cases hg : mg l n (a, e) with
 | none =>
  apply fI;unfold eT;rw [hN];dsimp only;rw [hg]
 | some q =>
  obtain ⟨r, a', e'⟩ := q;by_cases hc : e' = 0 ∧ a' = l.length
  ·have hP : eT l = (r, 0) := by
    unfold eT;rw [hN];dsimp only;rw [hg];dsimp only;rw [acW hc]
   rw [hP];obtain ⟨rfl, rfl⟩ := hc;have he : e = 0 := by
    by_cases he : e = 0
    ·exact he
    ·exact absurd rfl (Ls he hg)
   subst he;obtain ⟨-, -, c, d, bd⟩ := fN hN (adq _);dsimp only at c d;obtain ⟨-, -, -, g4, g5, g6⟩ := xH c hg;refine .inl ⟨rfl, g5, ?_⟩;unfold cN;rw [g4];rw [afc] at d;rw [List.drop_length, adh] at g6;rw [d, g6]
  ·apply fI;unfold eT;rw [hN];dsimp only;rw [hg];dsimp only;rw [acO hc]
theorem pg.one {l : List UInt8} {r r' : List Sp} {e e' : Nat} (h : pg l r e) (h' : pg l r' e') (hr : r.length < 9223372036854775808) (yF : r'.length < 9223372036854775808) : r = r' ∧ e = e' := by
 rcases h with ⟨rfl, aT, rfl⟩ | ⟨rfl, rfl, fI⟩
 ·rcases h' with ⟨rfl, Tq, he⟩ | ⟨rfl, rfl, aaJ⟩
  ·have h1 := ku r hr aT;have h2 := ku r' yF Tq;rw [he, h1] at h2;simp only [acT, and_true] at h2;exact ⟨h2, rfl⟩
  ·exact absurd rfl (aaJ r hr aT)
 ·rcases h' with ⟨rfl, Tq, rfl⟩ | ⟨rfl, rfl, _⟩
  ·exact absurd rfl (fI r' yF Tq)
  ·exact ⟨rfl, rfl⟩
theorem pj {w : World} {g : Nat} {p : Option Addr} {n c at_ : Nat} (II : w.cell? ⟨g, 0, none⟩ = some (.slice p n c)) (zw : w.cell? ⟨g, 1, none⟩ = some (.int .i64 (at_ : Int))) (aG : at_ ≤ n) (hn : (n : Int) ≤ 9223372036854775807) :
  Calls prog 177 #[.pointer (some ⟨g, 0, none⟩)] w fun e w' => e = .returned (.int .i64 ((n : Int) - (at_ : Int))) ∧ ∃ q, w' = w.drewN q := by
 go_enter func177, ntmps177
 go_wp2;go_quiet (fail)
 go_wp2;go_ret;exact ⟨rfl, _, rfl⟩
def str (l : List UInt8) : ByteArray := strOfNums (Lib.numsL l)
theorem str_eq (l : List UInt8) : str l = ⟨l.toArray⟩ := by
 show (⟨(Lib.bytesOf (Lib.numsL l)).toArray⟩ : ByteArray) = _
 rw [Lib.bytesOf_numsL]
theorem mZ (a b : List UInt8) : ((str a).toList == (str b).toList) = decide (a = b) := by
 rw [← beq_toListBytes, aem, str_eq, str_eq, adr]
 show (a.toArray == b.toArray) = true ↔ a = b
 simp
theorem eu {w : World} {p : Option Addr} {n c : Nat} {l : List UInt8} (h : By w (.slice p n c) l) (q : Nat) : (convert 32 9 (.slice p n c)).run prog (w.drewN q) = .ok (.string (str l)) (w.drewN q) := by
 have h' : By (w.drewN q) (.slice p n c) l := h;obtain ⟨b, hl⟩ := h'.yD;exact b.convert hl c 32 5 9 adu underlying5 afb
theorem By.grown {w w' : World} {v : Value} {l : List UInt8} {row : Option Nat} (h : By w v l) (hg : w.grownBy w' row) (aN : l = [] ∨ ∀ k, v.ownBlock = some k → row ≠ some k) : By w' v l := by
 obtain ⟨p, cap, rfl, hl, hm, hn, hc⟩ := h;refine ⟨p, cap, rfl, hl, hm, hn, fun a e i x hx => ?_⟩;rcases aN with rfl | aN
 ·simp at hx
 ·subst e;refine hg.cell (hc a rfl i x hx) ?_;rw [block_add];exact fun e => aN a.block rfl e.symm
def Xm (v : Value) (at_ E : Nat) : Array Value := #[v, .int .i64 (at_ : Int), .int .i64 (E : Int), .bool true]
def Sc (w : World) (g : Nat) (v : Value) (at_ E : Nat) : Prop := w.heap[g]? = some (.cells (Xm v at_ E) 165 (0, 0))
theorem Sc.c0 {w : World} {g : Nat} {v : Value} {at_ E : Nat} (h : Sc w g v at_ E) : w.cell? ⟨g, 0, none⟩ = some v := by rw [acC w g 0 _ 165 (0, 0) h]; rfl
theorem Sc.c1 {w : World} {g : Nat} {v : Value} {at_ E : Nat} (h : Sc w g v at_ E) : w.cell? ⟨g, 1, none⟩ = some (.int .i64 (at_ : Int)) := by rw [acC w g 1 _ 165 (0, 0) h]; rfl
theorem Sc.c2 {w : World} {g : Nat} {v : Value} {at_ E : Nat} (h : Sc w g v at_ E) : w.cell? ⟨g, 2, none⟩ = some (.int .i64 (E : Int)) := by rw [acC w g 2 _ 165 (0, 0) h]; rfl
theorem Sc.c3 {w : World} {g : Nat} {v : Value} {at_ E : Nat} (h : Sc w g v at_ E) : w.cell? ⟨g, 3, none⟩ = some (.bool true) := by rw [acC w g 3 _ 165 (0, 0) h]; rfl
theorem Sc.fr {w : World} {g : Nat} {v : Value} {at_ E : Nat} (h : Sc w g v at_ E) (i : Nat) : w.frozen? ⟨g, i, none⟩ = false := acI w g i _ 165 h
theorem Sc.lt {w : World} {g : Nat} {v : Value} {at_ E : Nat} (h : Sc w g v at_ E) : g < w.heap.size := lt_of_cell h.c0
theorem Sc.set1 {w : World} {g : Nat} {v : Value} {at_ E : Nat} (h : Sc w g v at_ E) {x : Int} {k : Nat} (e : x = (k : Int)) : Sc (w.setCell ⟨g, 1, none⟩ (.int .i64 x)) g v k E := by
 have := acK w g 1 _ 165 (.int .i64 x) h;unfold Sc;rw [this, e];rfl
theorem Sc.set2 {w : World} {g : Nat} {v : Value} {at_ E : Nat} (h : Sc w g v at_ E) {x : Int} {k : Nat} (e : x = (k : Int)) : Sc (w.setCell ⟨g, 2, none⟩ (.int .i64 x)) g v at_ k := by
 have := acK w g 2 _ 165 (.int .i64 x) h;unfold Sc;rw [this, e];rfl
theorem aj (w : World) (g i : Nat) (x : Value) : w.grownBy (w.setCell ⟨g, i, none⟩ x) (some g) :=
 ⟨rfl, rfl, rfl, by simp [World.setCell], fun j _ hj => adf w ⟨g, i, none⟩ j _ (fun e => hj (by rw [e]))⟩
def qu (w : World) (g : Nat) (v : Value) (at_ E : Nat) (r : Value) (e : Ending) (w' : World) : Prop := e = .returned r ∧ Sc w' g v at_ E ∧ w.grownBy w' (some g)
theorem Lt : ∀ (l : List UInt8) (i z : Nat) {n k e : Nat}, rd l i z = (n, k, e) → e ≠ 0 → n = 0 ∧ k = 0
 | [], i, z, n, k, e, h, he => by simp only [rd, acT] at h; omega
 | x :: r, i, z, n, k, e, h, he => by
  rw [pd] at h
  split at h
  ·simp only [acT] at h; omega
  ·split at h
   ·simp only [acT] at h; omega
   ·split at h
    ·simp only [acT] at h; omega
    ·exact Lt r _ _ h he
theorem BH {l : List UInt8} {n k e : Nat} (h : aR l = (n, k, e)) (he : e ≠ 0) : n = 0 ∧ k = 0 := Lt l 0 0 h he
theorem jR {l : List UInt8} {n k e : Nat} (h : aR l = (n, k, e)) : k ≤ l.length ∧ n < 9223372036854775808 ∧ k ≤ 9 := by
 by_cases he : e = 0
 ·subst he;obtain ⟨h1, h2, _, h4⟩ := k_ h;refine ⟨h1, acV h4 ?_, h2⟩;exact acN (aeV (by decide) h2) (by decide)
 ·obtain ⟨rfl, rfl⟩ := BH h he;exact ⟨adq _, by decide, by omega⟩
def pn (l : List UInt8) (at_ most N K E : Nat) : List UInt8 × Nat × Nat :=
 if E ≠ 0 then ([], at_, E) else if most < N then ([], at_, 4) else if l.length < at_ + K + N then ([], at_, 2) else ((l.drop (at_ + K)).take N, at_ + K + N, 0)
def xI (l : List UInt8) (at_ most : Nat) : List UInt8 × Nat × Nat := pn l at_ most (aR (l.drop at_)).1 (aR (l.drop at_)).2.1 (aR (l.drop at_)).2.2
theorem lh {w : World} {g : Nat} {E : Nat} (h2 : w.cell? ⟨g, 2, none⟩ = some (.int .i64 (E : Int))) (h3 : w.cell? ⟨g, 3, none⟩ = some (.bool true)) :
  Calls prog 141 #[.pointer (some ⟨g, 0, none⟩)] w fun e w' => e = .returned (.int .i64 (E : Int)) ∧ w = w' := by
 go_enter func141, ntmps141
 go_wp2;go_ret;exact ⟨rfl, rfl⟩
theorem zA : str [] = ByteArray.empty := rfl
theorem bH {w : World} {p : Option Addr} {n c : Nat} {l : List UInt8} (h : By w (.slice p n c) l) : (convert 32 9 (.slice p n c)).run prog w = .ok (.string (str l)) w := eu h 0
theorem lj {f : FuncId} {args : Array Value} {w : World} {n : Nat} {v : Value}
  (h : Calls prog f args (w.drewN n) fun e w' => e = .returned v ∧ w.drewN n = w') : Calls prog f args (w.drewN n) fun e Im => e = .returned v ∧ ∃ m, Im = w.drewN m :=
 h.mono fun _ _ ⟨he, hm⟩ => ⟨he, n, hm.symm⟩
theorem Own.Lu {B : Nat} {w : World} {v : Value} {l : List UInt8} (h : Own B w v l) : l = [] ∨ ∀ k, v.ownBlock = some k → some w.heap.size ≠ some k := by
 rcases h with ⟨_, rfl⟩ | ⟨g, cap, rfl, _, _, _, hc, _⟩
 ·exact .inl rfl
 ·cases l with
  | nil => exact .inl rfl
  | cons x r =>
   refine .inr fun k hk e => ?_;simp only [Value.ownBlock, adp] at hk;injection e with e;subst hk;have := lt_of_cell (hc 0 x rfl);simp only at this;omega
theorem aJ {a b c : World} {row : Option Nat} (h : a.grownBy b row) (h' : b.grownBy c row) : a.grownBy c row :=
 ⟨h'.os.trans h.os, h'.tape.trans h.tape, h'.output.trans h.output, acN h.size h'.size, fun k hk hr => (h'.block k (acV hk h.size) hr).trans (h.block k hk hr)⟩
theorem IK {w : World} {g : Nat} {p : Option Addr} {n c at_ : Nat} {l : List UInt8} (hS : Sc w g (.slice p n c) at_ 0) (gZ : By w (.slice p n c) l) (aN : l = [] ∨ ∀ k, (Value.slice p n c).ownBlock = some k → some g ≠ some k) (aG : at_ ≤ n)
  (most : Int) (M : Nat) (hM : max most 0 = (M : Int)) {T : List UInt8} {A E : Nat} (hT : xI l at_ M = (T, A, E)) :
  Calls prog 178 #[.pointer (some ⟨g, 0, none⟩), .int .i64 most] w (qu w g (.slice p n c) A 0 (.tuple #[.string (str T), .int .i64 E])) := by
 obtain ⟨N, K, e0, hR⟩ : ∃ N K e0, aR (l.drop at_) = (N, K, e0) := ⟨_, _, _, rfl⟩
 unfold xI at hT;rw [hR] at hT;dsimp only at hT;have Nu := gZ.jZ;have hn := gZ.len.1;obtain ⟨hK, hN, hK9⟩ := jR hR;rw [adg, ← hn] at hK;have hKn : at_ + K ≤ n := by omega
 have II := hS.c0;have zw := hS.c1;have HT := af hT;have HS := af hS;have eI := af gZ;have jd := af aN;have HN := af hn;have HR := af hR;clear hT hS gZ aN hn hR hK;go_enter func178, ntmps178
 go_wp2_with fail
 refine (tK HS.out rfl rfl eI.out aG HR.out).mono ?_;rintro e w1 ⟨rfl, hh, hg⟩;obtain ⟨a1, Qt⟩ : ∃ a1, at_ + K = a1 := ⟨_, rfl⟩
 have S1 : Sc w1 g (.slice p n c) a1 0 := by rw [← Qt]; exact hh
 rw [Qt] at hKn;have B1 := eI.out.grown hg jd.out;have d0 := S1.c0;have d1 := S1.c1;have f1 := S1.fr 1;have G1 := af hg;have eL := af S1;have aS := af B1;clear hh hg S1 B1 II zw;by_cases he : e0 ≠ 0
 ·have g1 : ((e0 : Int) != 0) = true := by simp; omega
  have ht := HT.out;unfold pn at ht;rw [acW he] at ht;simp only [acT] at ht;obtain ⟨rfl, rfl, rfl⟩ := ht;clear he HT;go_wp2;go_ret2
  exact ⟨by rw [zA]; rfl, eL.out.set1 rfl, aJ G1.out (aj _ _ _ _)⟩
 ·obtain rfl : e0 = 0 := by omega
  by_cases jG : M < N
  ·have ht := HT.out;unfold pn at ht;rw [acO he, acW jG] at ht;simp only [acT] at ht;obtain ⟨rfl, rfl, rfl⟩ := ht;clear he HT;have g4 : max most 0 < (N : Int) := by omega
   go_wp2_with fail
   go_ret2
   exact ⟨by rw [zA]; rfl, eL.out.set1 rfl, aJ G1.out (aj _ _ _ _)⟩
  ·have g4 : ¬ max most 0 < (N : Int) := by omega
   have N9 : (N : Int) ≤ 9223372036854775807 := by omega
   have hKi : (a1 : Int) ≤ (n : Int) := by omega
   go_wp2_with fail
   refine (pj d0 d1 hKn Nu).mono ?_;rintro e w2 ⟨rfl, q, rfl⟩;have vB : Hid (Sc (w1.drewN q) g (Value.slice p n c) a1 0) := eL;have G2 : Hid (w.grownBy (w1.drewN q) (some g)) := af (bL G1.out q);by_cases hlen : (n : Int) - (a1 : Int) < (N : Int)
   ·have ht := HT.out;unfold pn at ht;rw [acO he, acO jG, acW (by have := HN.out; omega)] at ht;simp only [acT] at ht;obtain ⟨rfl, rfl, rfl⟩ := ht;clear he HT;go_wp2_with fail
    go_ret2
    exact ⟨by rw [zA]; rfl, vB.out.set1 rfl, aJ G2.out (aj _ _ _ _)⟩
   ·have ht := HT.out;unfold pn at ht;rw [acO he, acO jG, acO (by have := HN.out; omega)] at ht;simp only [acT] at ht;obtain ⟨rfl, rfl, rfl⟩ := ht;clear he HT;have j_ : (a1 : Int) + (N : Int) ≤ 9223372036854775807 := by omega
    have ab0 : (a1 : Int) + (N : Int) ≤ (n : Int) := by omega
    have ha9 : (a1 : Int) ≤ 9223372036854775807 := by omega
    have haw : IntKind.i64.wrap (a1 : Int) = (a1 : Int) := by rw [aeE]; omega
    have B3 := (aS.out.drewN q).grown (aj (w1.drewN q) g 1 (.int .i64 ((a1 : Int) + (N : Int)))) jd.out;obtain ⟨q3, F3, Lv⟩ := F0 (j := a1) (k := a1 + N) B3 (by omega) (by omega);obtain ⟨m3, NG⟩ : ∃ m3, a1 + N - a1 = m3 := ⟨_, rfl⟩
    obtain ⟨d3, Ts⟩ : ∃ d3, c - a1 = d3 := ⟨_, rfl⟩
    rw [NG, Ts] at Lv;simp only [NG, Ts] at F3;have e1 : ((a1 + N : Nat) : Int) = (a1 : Int) + (N : Int) := by omega
    rw [e1] at F3;have e2 : (l.take (a1 + N)).drop a1 = (l.drop a1).take N := by
     rw [List.drop_take, show a1 + N - a1 = N by omega]
    rw [e2] at Lv;have ab1 := fun q => eu Lv q;have aaK := bH Lv;have S3 := vB.out.set1 (x := (a1 : Int) + (N : Int)) (k := a1 + N) e1.symm;have G3 := aJ G2.out (aj (w1.drewN q) g 1 (.int .i64 ((a1 : Int) + (N : Int))));have Ar := af S3;have wv := af G3;have HA1 := af Qt;clear S3 G3 NG Ts e1 e2 B3 aS eI Lv Qt vB G2 eL G1 aG hKi;go_wp2_with fail
    go_quiet (fail)
    go_wp2;go_ret2
    exact ⟨by rw [HA1.out]; rfl, by rw [HA1.out]; exact Ar.out, bL wv.out _⟩
theorem ay {w : World} {g : Nat} {p : Option Addr} {n c at_ E0 : Nat} {l : List UInt8} (hS : Sc w g (.slice p n c) at_ E0) (gZ : By w (.slice p n c) l) (aG : at_ ≤ n)
  {N A E : Nat} (hT : (if E0 ≠ 0 then (0, at_, E0) else ((aR (l.drop at_)).1, at_ + (aR (l.drop at_)).2.1, (aR (l.drop at_)).2.2)) = (N, A, E)) :
  Calls prog 105 #[.pointer (some ⟨g, 0, none⟩)] w (qu w g (.slice p n c) A E (.int .i64 N)) := by
 have h2 := hS.c2;have h3 := hS.c3;have HS := af hS;have eI := af gZ;have HT := af hT;clear hS gZ hT;by_cases h0 : E0 ≠ 0
 ·have g1 : ((E0 : Int) != 0) = true := by simp; omega
  have ht := HT.out;rw [acW h0] at ht;simp only [acT] at ht;obtain ⟨rfl, rfl, rfl⟩ := ht;clear HT h0;go_enter func105, ntmps105
  go_wp2_with fail
  refine (lh h2 h3).mono ?_;rintro e w1 ⟨rfl, rfl⟩;go_wp2;go_ret;exact ⟨rfl, HS.out, adk _ _⟩
 ·obtain rfl : E0 = 0 := by omega
  have ht := HT.out;rw [acO h0] at ht;obtain ⟨N', K, e0, hR⟩ : ∃ N K e0, aR (l.drop at_) = (N, K, e0) := ⟨_, _, _, rfl⟩
  rw [hR] at ht;simp only [acT] at ht;obtain ⟨rfl, rfl, rfl⟩ := ht;have HR := af hR;clear HT h0 hR;go_enter func105, ntmps105
  go_wp2_with fail
  refine (lh h2 h3).mono ?_;rintro e w1 ⟨rfl, rfl⟩;go_wp2_with fail
  refine (tK HS.out rfl rfl eI.out aG HR.out).mono ?_;rintro e w1 ⟨rfl, hh, hg⟩;have S1 : Sc w1 g (.slice p n c) (at_ + K) 0 := hh;have d2 := S1.c2;have f2 := S1.fr 2;have G1 := af hg;have eL := af S1;clear hh hg S1 h2 h3;go_wp2;go_ret;exact ⟨rfl, eL.out.set2 rfl, aJ G1.out (aj _ _ _ _)⟩
theorem kW {w : World} {g : Nat} {p : Option Addr} {n c at_ E0 : Nat} {l : List UInt8} (hS : Sc w g (.slice p n c) at_ E0) (gZ : By w (.slice p n c) l) (aN : l = [] ∨ ∀ k, (Value.slice p n c).ownBlock = some k → some g ≠ some k) (aG : at_ ≤ n)
  (most : Int) (M : Nat) (hM : max most 0 = (M : Int)) {T : List UInt8} {A E : Nat} (hT : (if E0 ≠ 0 then ([], at_, E0) else xI l at_ M) = (T, A, E)) :
  Calls prog 145 #[.pointer (some ⟨g, 0, none⟩), .int .i64 most] w (qu w g (.slice p n c) A E (.string (str T))) := by
 have h2 := hS.c2;have h3 := hS.c3;have HS := af hS;have eI := af gZ;have HT := af hT;clear hS gZ hT;by_cases h0 : E0 ≠ 0
 ·have g1 : ((E0 : Int) != 0) = true := by simp; omega
  have ht := HT.out;rw [acW h0] at ht;simp only [acT] at ht;obtain ⟨rfl, rfl, rfl⟩ := ht;clear HT h0;go_enter func145, ntmps145
  go_wp2_with fail
  refine (lh h2 h3).mono ?_;rintro e w1 ⟨rfl, rfl⟩;go_wp2;go_ret;exact ⟨rfl, HS.out, adk _ _⟩
 ·obtain rfl : E0 = 0 := by omega
  have ht := HT.out;rw [acO h0] at ht;have OT := af ht;clear HT h0 ht;go_enter func145, ntmps145
  go_wp2_with fail
  refine (lh h2 h3).mono ?_;rintro e w1 ⟨rfl, rfl⟩;go_wp2_with fail
  refine (IK HS.out eI.out aN aG most M hM OT.out).mono ?_;rintro e w1 ⟨rfl, S1, hg⟩;have d2 := S1.c2;have f2 := S1.fr 2;have G1 := af hg;have eL := af S1;clear hg S1 h2 h3;go_wp2;go_ret;exact ⟨rfl, eL.out.set2 rfl, aJ G1.out (aj _ _ _ _)⟩
def Lw (at_ n E : Nat) : Nat := if E ≠ 0 then E else if at_ < n then 3 else 0
theorem BI {w : World} {g : Nat} {p : Option Addr} {n c at_ E0 : Nat} (hS : Sc w g (.slice p n c) at_ E0) (aG : at_ ≤ n) (hn : (n : Int) ≤ 9223372036854775807) {E : Nat} (hE : Lw at_ n E0 = E) :
  Calls prog 144 #[.pointer (some ⟨g, 0, none⟩)] w (qu w g (.slice p n c) at_ E (.int .i64 E)) := by
 have h0 := hS.c0;have h1 := hS.c1;have h2 := hS.c2;have h3 := hS.c3;have f2 := hS.fr 2;have HS := af hS;have HE := af hE;clear hS hE;by_cases he : E0 ≠ 0
 ·have g1 : ((E0 : Int) != 0) = true := by simp; omega
  have hE := HE.out;unfold Lw at hE;rw [acW he] at hE;subst hE;clear HE he;go_enter func144, ntmps144
  go_wp2_with fail
  refine (lh h2 h3).mono ?_;rintro e w1 ⟨rfl, rfl⟩;go_wp2;go_ret;exact ⟨rfl, HS.out, adk _ _⟩
 ·obtain rfl : E0 = 0 := by omega
  have hE := HE.out;unfold Lw at hE;rw [acO he] at hE;by_cases hm : at_ < n
  ·rw [acW hm] at hE;subst hE;clear HE he;have g2 : (0 : Int) < (n : Int) - (at_ : Int) := by omega
   go_enter func144, ntmps144
   go_wp2_with fail
   refine (lh h2 h3).mono ?_;rintro e w1 ⟨rfl, rfl⟩;go_wp2_with fail
   refine (pj h0 h1 aG hn).mono ?_;rintro e w1 ⟨rfl, q, rfl⟩;have eL : Hid (Sc (w.drewN q) g (.slice p n c) at_ 0) := HS;go_wp2;go_ret;exact ⟨rfl, eL.out.set2 rfl, aJ (bL (adk _ _) _) (aj _ _ _ _)⟩
  ·rw [acO hm] at hE;subst hE;clear HE he;have g2 : ¬ (0 : Int) < (n : Int) - (at_ : Int) := by omega
   go_enter func144, ntmps144
   go_wp2_with fail
   refine (lh h2 h3).mono ?_;rintro e w1 ⟨rfl, rfl⟩;go_wp2_with fail
   refine (pj h0 h1 aG hn).mono ?_;rintro e w1 ⟨rfl, q, rfl⟩;have eL : Hid (Sc (w.drewN q) g (.slice p n c) at_ 0) := HS;go_wp2;go_ret;exact ⟨rfl, eL.out, bL (adk _ _) _⟩
theorem je {w : World} {v : Value} {l : List UInt8} (hv : By w v l) (hl : l.length ≤ 140737488355328) :
  Calls prog 69 #[v] w fun e w' => ∃ (g : Nat) (u : Value), e = .returned (.pointer (some ⟨g, 0, none⟩)) ∧ w.heap.size ≤ g ∧ Sc w' g u 0 0 ∧ Own w.heap.size w' u l ∧ (l = [] ∨ ∀ k, u.ownBlock = some k → some g ≠ some k) ∧ Below w.heap.size w w' := by
 obtain ⟨p, n, c, rfl⟩ := hv.sl;have HV := af hv;clear hv;go_enter func69, ntmps69
 go_wp2_with fail
 refine (GI HV.out hl).mono ?_;rintro e w1 ⟨v1, rfl, ho, hb⟩;obtain ⟨p1, n1, c1, rfl⟩ := ho.bp.sl;have HO := af ho;have HB := af hb;clear ho hb;go_wp2;go_ret;exact ⟨w1.heap.size, _, rfl, HB.out.size, acQ _ _, HO.out.below ((acG _ _).alloc (acE _) _), HO.out.Lu, HB.out.alloc HB.out.size _⟩
def Xn (v : Value) (at_ E : Nat) : Array Value := #[v, .int .i64 (at_ : Int), .int .i64 (E : Int)]
def Sr (w : World) (g : Nat) (v : Value) (at_ E : Nat) : Prop := w.heap[g]? = some (.cells (Xn v at_ E) 121 (0, 0))
theorem Sr.c0 {w : World} {g : Nat} {v : Value} {at_ E : Nat} (h : Sr w g v at_ E) : w.cell? ⟨g, 0, none⟩ = some v := by rw [acC w g 0 _ 121 (0, 0) h]; rfl
theorem Sr.c1 {w : World} {g : Nat} {v : Value} {at_ E : Nat} (h : Sr w g v at_ E) : w.cell? ⟨g, 1, none⟩ = some (.int .i64 (at_ : Int)) := by rw [acC w g 1 _ 121 (0, 0) h]; rfl
theorem Sr.c2 {w : World} {g : Nat} {v : Value} {at_ E : Nat} (h : Sr w g v at_ E) : w.cell? ⟨g, 2, none⟩ = some (.int .i64 (E : Int)) := by rw [acC w g 2 _ 121 (0, 0) h]; rfl
theorem Sr.fr {w : World} {g : Nat} {v : Value} {at_ E : Nat} (h : Sr w g v at_ E) (i : Nat) : w.frozen? ⟨g, i, none⟩ = false := acI w g i _ 121 h
theorem Sr.lt {w : World} {g : Nat} {v : Value} {at_ E : Nat} (h : Sr w g v at_ E) : g < w.heap.size := lt_of_cell h.c0
theorem Sr.set1 {w : World} {g : Nat} {v : Value} {at_ E : Nat} (h : Sr w g v at_ E) {x : Int} {k : Nat} (e : x = (k : Int)) : Sr (w.setCell ⟨g, 1, none⟩ (.int .i64 x)) g v k E := by
 have := acK w g 1 _ 121 (.int .i64 x) h;unfold Sr;rw [this, e];rfl
theorem Sr.set2 {w : World} {g : Nat} {v : Value} {at_ E : Nat} (h : Sr w g v at_ E) {x : Int} {k : Nat} (e : x = (k : Int)) : Sr (w.setCell ⟨g, 2, none⟩ (.int .i64 x)) g v at_ k := by
 have := acK w g 2 _ 121 (.int .i64 x) h;unfold Sr;rw [this, e];rfl
def Lx (w : World) (g : Nat) (v : Value) (at_ E : Nat) (r : Value) (e : Ending) (w' : World) : Prop := e = .returned r ∧ Sr w' g v at_ E ∧ w.grownBy w' (some g)
theorem aY {w : World} {g : Nat} {p : Option Addr} {n c at_ E0 : Nat} {l : List UInt8} (hS : Sr w g (.slice p n c) at_ E0) (gZ : By w (.slice p n c) l) (aG : at_ ≤ n)
  {N A E : Nat} (hT : (if E0 ≠ 0 then (0, at_, E0) else ((aR (l.drop at_)).1, at_ + (aR (l.drop at_)).2.1, (aR (l.drop at_)).2.2)) = (N, A, E)) :
  Calls prog 70 #[.pointer (some ⟨g, 0, none⟩)] w (Lx w g (.slice p n c) A E (.int .i64 N)) := by
 have h0 := hS.c0;have h1 := hS.c1;have h2 := hS.c2;have Nu := gZ.jZ;have hn := gZ.len.1;have HS := af hS;have eI := af gZ;have HT := af hT;have HN := af hn;clear hS gZ hT hn;by_cases he : E0 ≠ 0
 ·have g1 : ((E0 : Int) != 0) = true := by simp; omega
  have ht := HT.out;rw [acW he] at ht;simp only [acT] at ht;obtain ⟨rfl, rfl, rfl⟩ := ht;clear HT he;go_enter func70, ntmps70
  go_wp2;go_ret;exact ⟨rfl, HS.out, adk _ _⟩
 ·obtain rfl : E0 = 0 := by omega
  have ht := HT.out;rw [acO he] at ht;obtain ⟨N', K, e0, hR⟩ : ∃ N K e0, aR (l.drop at_) = (N, K, e0) := ⟨_, _, _, rfl⟩
  rw [hR] at ht;simp only [acT] at ht;obtain ⟨rfl, rfl, rfl⟩ := ht;have hk := jR hR;rw [adg, ← HN.out] at hk;have j_ : (at_ : Int) + (K : Int) ≤ 9223372036854775807 := by omega
  have Xk : (at_ : Int) ≤ (n : Int) := by omega
  obtain ⟨q, hcut, hF⟩ := o9 eI.out aG;obtain ⟨m1, Aw⟩ : ∃ m1, n - at_ = m1 := ⟨_, rfl⟩
  obtain ⟨d1, NH⟩ : ∃ d1, c - at_ = d1 := ⟨_, rfl⟩
  rw [Aw, NH] at hF;simp only [Aw, NH] at hcut;have HR := af hR;have HF := af hF;have f1 := HS.out.fr 1;have f2 := HS.out.fr 2;clear HT he hR Aw NH hF hk;go_enter func70, ntmps70
  go_wp2_with fail
  go_quiet ((go_at_call 110; refine lj (jQ (HF.out.drewN _) HR.out)))
  have eL : Hid (Sr (w.drewN nq) g (.slice p n c) at_ 0) := HS;go_wp2;go_ret;exact ⟨rfl, (eL.out.set1 (by omega)).set2 rfl, aJ (bL (adk _ _) _) (aJ (aj _ _ _ _) (aj _ _ _ _))⟩
theorem iw {w : World} {g : Nat} {p : Option Addr} {n c at_ E0 : Nat} {l : List UInt8} (hS : Sr w g (.slice p n c) at_ E0) (gZ : By w (.slice p n c) l) (aN : l = [] ∨ ∀ k, (Value.slice p n c).ownBlock = some k → some g ≠ some k) (aG : at_ ≤ n)
  (most : Int) (M : Nat) (hM : max most 0 = (M : Int)) {T : List UInt8} {A E : Nat} (hT : (if E0 ≠ 0 then ([], at_, E0) else xI l at_ M) = (T, A, E)) :
  Calls prog 72 #[.pointer (some ⟨g, 0, none⟩), .int .i64 most] w (Lx w g (.slice p n c) A E (.string (str T))) := by
 have h0 := hS.c0;have h1 := hS.c1;have h2 := hS.c2;have Nu := gZ.jZ;have hn := gZ.len.1;have HS := af hS;have eI := af gZ;have jd := af aN;have HT := af hT;have HN := af hn;clear hS gZ hT hn aN;by_cases he : E0 ≠ 0
 ·have g1 : ((E0 : Int) != 0) = true := by simp; omega
  have ht := HT.out;rw [acW he] at ht;simp only [acT] at ht;obtain ⟨rfl, rfl, rfl⟩ := ht;clear HT he;go_enter func72, ntmps72
  go_wp2;go_ret;exact ⟨rfl, HS.out, adk _ _⟩
 ·obtain rfl : E0 = 0 := by omega
  have ht := HT.out;rw [acO he] at ht;obtain ⟨N, K, e0, hR⟩ : ∃ N K e0, aR (l.drop at_) = (N, K, e0) := ⟨_, _, _, rfl⟩
  unfold xI at ht;rw [hR] at ht;dsimp only at ht;have hk := jR hR;rw [adg, ← HN.out] at hk;have j_ : (at_ : Int) + (K : Int) ≤ (n : Int) := by omega
  have hN9 : (N : Int) ≤ 9223372036854775807 := by omega
  have Xk : (at_ : Int) ≤ (n : Int) := by omega
  obtain ⟨q, hcut, hF⟩ := o9 eI.out aG;obtain ⟨m1, Aw⟩ : ∃ m1, n - at_ = m1 := ⟨_, rfl⟩
  obtain ⟨d1, NH⟩ : ∃ d1, c - at_ = d1 := ⟨_, rfl⟩
  rw [Aw, NH] at hF;simp only [Aw, NH] at hcut;have HR := af hR;have HF := af hF;have OT := af ht;have f1 := HS.out.fr 1;have f2 := HS.out.fr 2;clear HT he hR Aw NH hF hk ht;by_cases ZY : e0 ≠ 0
  focus
   have g1 : ((e0 : Int) != 0) = true := by simp; omega
   have ht := OT.out;unfold pn at ht;rw [acW ZY] at ht;simp only [acT] at ht;obtain ⟨rfl, rfl, rfl⟩ := ht
  rotate_left
  focus
   obtain rfl : e0 = 0 := by omega
   by_cases jG : M < N
   focus
    have ht := OT.out;unfold pn at ht;rw [acO ZY, acW jG] at ht;simp only [acT] at ht;obtain ⟨rfl, rfl, rfl⟩ := ht;have g4 : most < (N : Int) := by omega
    have g5 : (0 : Int) < (N : Int) := by omega
   rotate_left
   ·have g4 : ¬ most < (N : Int) ∨ most < (N : Int) ∧ decide ((0 : Int) < (N : Int)) = false := by
     by_cases h : most < (N : Int)
     ·exact .inr ⟨h, ac1 (by omega)⟩
     ·exact .inl h
    clear ZY;by_cases hlen : (n : Int) - (at_ : Int) - (K : Int) < (N : Int)
    ·have ht := OT.out;unfold pn at ht;rw [acO (by simp), acO jG, acW (by have := HN.out; omega)] at ht;simp only [acT] at ht;obtain ⟨rfl, rfl, rfl⟩ := ht;clear OT
     replace g4 : ¬ most < (N : Int) := by
      rcases g4 with g4 | ⟨g4, g5⟩
      ·exact g4
      ·have := of_decide_eq_false g5;omega
     all_goals
      go_enter func72, ntmps72
      go_wp2_with fail
      go_quiet ((go_at_call 110; refine lj (jQ (HF.out.drewN _) HR.out)))
      revert nq;intro q1;go_wp2_with fail
      go_quiet (fail)
      revert nq;intro q2;have eL : Hid (Sr (w.drewN (q1 + q2)) g (.slice p n c) at_ 0) := HS;go_wp2;go_ret;exact ⟨rfl, eL.out.set2 rfl, aJ (bL (adk _ _) _) (aj _ _ _ _)⟩
    ·have ht := OT.out;unfold pn at ht;rw [acO (by simp), acO jG, acO (by have := HN.out; omega)] at ht;simp only [acT] at ht;obtain ⟨rfl, rfl, rfl⟩ := ht;clear OT;obtain ⟨a2, V0⟩ : ∃ a2, at_ + K = a2 := ⟨_, rfl⟩
     obtain ⟨a1, Qt⟩ : ∃ a1, at_ + K + N = a1 := ⟨_, rfl⟩
     have e1 : (at_ : Int) + ((K : Int) + (N : Int)) = (a1 : Int) := by omega
     have e2 : (a1 : Int) - (N : Int) = (a2 : Int) := by omega
     have han : (a1 : Int) ≤ (n : Int) := by omega
     have e3 : IntKind.i64.wrap (a2 : Int) = (a2 : Int) := by rw [aeE]; omega
     have aK : (K : Int) + (N : Int) ≤ 9223372036854775807 := by omega
     have aP : (at_ : Int) + ((K : Int) + (N : Int)) ≤ 9223372036854775807 := by omega
     rcases g4 with g4 | ⟨g4, g5⟩;all_goals
      go_enter func72, ntmps72
      go_wp2_with fail
      go_quiet ((go_at_call 110; refine lj (jQ (HF.out.drewN _) HR.out)))
      revert nq;intro q1;go_wp2_with fail
      go_quiet (fail)
      revert nq;intro q2;have eL : Hid (Sr (w.drewN (q1 + q2)) g (.slice p n c) at_ 0) := HS;go_wp2_with fail
      have B3 := (eI.out.drewN (q1 + q2)).grown (aj (w.drewN (q1 + q2)) g 1 (.int .i64 (a1 : Int))) jd.out;obtain ⟨q3, F3, Lv⟩ := F0 (j := a2) (k := a1) B3 (by omega) (by omega);obtain ⟨m3, NG⟩ : ∃ m3, a1 - a2 = m3 := ⟨_, rfl⟩
      obtain ⟨d3, Ts⟩ : ∃ d3, c - a2 = d3 := ⟨_, rfl⟩
      rw [NG, Ts] at Lv;simp only [NG, Ts] at F3;rw [show (l.take a1).drop a2 = (l.drop a2).take N by rw [List.drop_take, show a1 - a2 = N by omega]] at Lv;have II := bH Lv;have zw := fun q => eu Lv q;have vB := af (eL.out.set1 (x := (a1 : Int)) rfl);clear B3 NG Ts Lv eL;go_quiet (fail)
      go_wp2;go_ret;refine ⟨by rw [V0]; rfl, by rw [Qt]; exact vB.out, bL (aJ (bL (adk _ _) _) (aj _ _ _ _)) _⟩
  all_goals
   clear OT ZY;go_enter func72, ntmps72
   go_wp2_with fail
   go_quiet ((go_at_call 110; refine lj (jQ (HF.out.drewN _) HR.out)))
   have eL : Hid (Sr (w.drewN nq) g (.slice p n c) at_ 0) := HS;go_wp2;go_ret;exact ⟨rfl, eL.out.set2 rfl, aJ (bL (adk _ _) _) (aj _ _ _ _)⟩
end Go.Proofs.YtionbmlicmibgaaGreatDoor
