/- Several texts made one. -/
import Derived.Test.YtgbdjcekpdfpjaaGreatDoorVd
import Derived.Test.YtgbdjcekpdfpjaaGreatDoorVe
set_option linter.unusedVariables false
set_option linter.unusedSimpArgs false
namespace Go.Proofs.YtgbdjcekpdfpjaaGreatDoor
open Go.RowKit
theorem sn_ext' {a b : Sn} (h1 : a.ix = b.ix) (h2 : a.tm = b.tm) (h3 : a.vo = b.vo) (h4 : a.da = b.da) : a = b := by
 cases a; cases b; simp_all
theorem rows_of : ∀ (l : List (List UInt8)) (f : Nat), (∀ p ∈ l, p.length ≤ 65536) → (l.map recL).flatten.length ≤ f → (rowsL f (l.map recL).flatten).1 = l
 | [], f, _, _ => by rw [List.map_nil, List.flatten_nil, rowsL_nil]
 | p :: r, f, hp, hf => by
  have hpk := pick_rec p (hp p (List.mem_cons_self ..)) (r.map recL).flatten
  rw [List.map_cons, List.flatten_cons, List.length_append] at hf
  have h0 : 0 < (recL p).length := by simp [recL, front]
  obtain ⟨f', rfl⟩ : ∃ f', f = f' + 1 := ⟨f - 1, by omega⟩
  rw [List.map_cons, List.flatten_cons, rowsL_go hpk, List.drop_left]
  show p :: _ = p :: r
  rw [rows_of r f' (fun q hq => hp q (List.mem_cons_of_mem _ hq)) (by omega)]
theorem pieces_flat : ∀ (f : Nat) (l : List UInt8), l.length ≤ f → (piecesL f l).flatten = l
 | 0, l, h => by rw [List.eq_nil_of_length_eq_zero (by omega : l.length = 0)]; rfl
 | f + 1, l, h => by
  unfold piecesL
  by_cases hl : l = []
  ·rw [if_pos hl, hl]; rfl
  ·rw [if_neg hl, List.flatten_cons, pieces_flat f (l.drop 512) (by have := List.length_pos_iff.2 hl; rw [List.length_drop]; omega), List.take_append_drop]
theorem piece_le : ∀ (f : Nat) (l : List UInt8), ∀ p ∈ piecesL f l, p.length ≤ 512
 | 0, l, p, h => by simp [piecesL] at h
 | f + 1, l, p, h => by
  unfold piecesL at h
  split at h
  ·simp at h
  ·rcases List.mem_cons.1 h with rfl | h
   ·rw [List.length_take]; omega
   ·exact piece_le f _ p h
theorem rdN_at {b A R : List UInt8} {n : Nat} (hn : n < 9223372036854775808) (hb : b = A ++ (digits n ++ R)) : rdN b A.length 0 = (n, A.length + (digits n).length, 0) := by
 unfold rdN
 rw [if_neg (by omega), hb, List.drop_left, readNum_digits hn R]
theorem rdNs_at : ∀ (l : List Int) {b A R : List UInt8}, (∀ x ∈ l, 0 ≤ x ∧ x < 9223372036854775808) → b = A ++ (numsB l ++ R) → rdNs b l.length A.length 0 = (l, A.length + (numsB l).length, 0)
 | [], b, A, R, _, _ => by simp [rdNs, numsB]
 | x :: r, b, A, R, hl, hb => by
  obtain ⟨h1, h2⟩ := hl x (List.mem_cons_self ..)
  have e : numsB (x :: r) = digits x.toNat ++ numsB r := by simp [numsB, numB]
  rw [e, List.append_assoc] at hb
  have hr := rdN_at (b := b) (A := A) (n := x.toNat) (by omega) hb
  have ih := rdNs_at r (b := b) (A := A ++ digits x.toNat) (R := R) (fun y hy => hl y (List.mem_cons_of_mem _ hy)) (by rw [hb]; simp)
  rw [List.length_append] at ih
  show rdNs b (r.length + 1) A.length 0 = _
  unfold rdNs
  rw [hr]
  dsimp only
  rw [ih, e, List.length_append]
  rw [show ((x.toNat : Nat) : Int) = x by omega]
  simp; omega
theorem chk_parts {s : Sn} (h : s.chk = 0) : 1 ≤ s.ix ∧ s.ix ≤ 1099511627776 ∧ 1 ≤ s.tm ∧ s.tm ≤ 1099511627776 ∧ okR s.vo = true ∧ s.da.length ≤ 262144 := by
 unfold Sn.chk at h
 split at h
 ·rename_i hc
  simp only [Bool.and_eq_true, decide_eq_true_eq] at hc
  split at h
  ·cases h
  ·exact ⟨hc.1.1.1, hc.1.1.2, hc.1.2.1, hc.1.2.2, hc.2, by omega⟩
 ·cases h
theorem vo_few {s : Sn} (h : s.chk = 0) : s.vo.length ≤ 7 := okR_few (chk_parts h).2.2.2.2.1
theorem head_le {s : Sn} (h : s.chk = 0) : s.head.length ≤ 200 := by
 obtain ⟨h1, h2, h3, h4, h5, h6⟩ := chk_parts h
 have h7 := vo_few h
 have hv := numsB_len s.vo (fun x hx => by have := okR_mem h5 x hx; unfold Go.Proofs.YtgbdjcekpdfpjaaGreatDoor.fits; omega)
 have a := numB_len s.ix (by omega)
 have b := numB_len s.tm (by omega)
 have c := numB_len s.vo.length (by omega)
 have d := numB_len s.da.length (by omega)
 unfold Sn.head
 simp only [List.length_append]
 omega
theorem snap_back {s : Sn} (h : s.chk = 0) : snapOf 7 s.head s.pieces = s := by
 obtain ⟨h1, h2, h3, h4, h5, h6⟩ := chk_parts h
 have h7 := vo_few h
 have eh : s.head = digits s.ix.toNat ++ (digits s.tm.toNat ++ (digits s.vo.length ++ (numsB s.vo ++ digits s.da.length))) := by
  unfold Sn.head numB
  simp
 have r1 := rdN_at (b := s.head) (A := []) (n := s.ix.toNat) (by omega) (by rw [eh]; rfl)
 simp only [List.length_nil, Nat.zero_add] at r1
 have r2 := rdN_at (b := s.head) (A := digits s.ix.toNat) (n := s.tm.toNat) (by omega) eh
 have r3 := rdN_at (b := s.head) (A := digits s.ix.toNat ++ digits s.tm.toNat) (R := numsB s.vo ++ digits s.da.length) (n := s.vo.length) (by omega) (by rw [eh]; simp)
 rw [List.length_append] at r3
 have r4 := rdNs_at s.vo (b := s.head) (A := digits s.ix.toNat ++ digits s.tm.toNat ++ digits s.vo.length) (R := digits s.da.length) (fun x hx => by have := okR_mem h5 x hx; omega) (by rw [eh]; simp)
 simp only [List.length_append] at r4
 unfold snapOf
 dsimp only
 rw [r1]
 dsimp only
 rw [r2]
 dsimp only
 rw [r3]
 dsimp only
 rw [Nat.min_eq_left h7, r4]
 exact sn_ext' (by show ((s.ix.toNat : Nat) : Int) = s.ix; omega) (by show ((s.tm.toNat : Nat) : Int) = s.tm; omega) rfl (pieces_flat _ _ (Nat.le_refl _))
theorem readB_file {s : Sn} (h : s.chk = 0) : readB 7 s.file = some s := by
 have hr : (rowsL s.file.length s.file).1 = s.head :: s.pieces := by
  have := rows_of (s.head :: s.pieces) s.file.length (fun p hp => by
   rcases List.mem_cons.1 hp with rfl | hp
   ·have := head_le h; omega
   ·have := piece_le _ _ p hp; omega) (Nat.le_refl _)
  exact this
 unfold readB
 rw [hr]
 dsimp only
 rw [snap_back h, if_pos ⟨h, rfl⟩]
theorem stateL_file {s : Sn} (h : s.chk = 0) : stateL s.name s.file = some s := by
 unfold stateL
 rw [readB_file h]
 simp
theorem dec_ok : ∀ (f u : Nat), u < f → ∀ x ∈ Lib.decDigits u, 48 ≤ x.toNat ∧ x.toNat ≤ 57
 | 0, u, h, _, _ => by omega
 | f + 1, u, h, x, hx => by
  unfold Lib.decDigits at hx
  split at hx
  ·rename_i hu
   rw [List.mem_singleton.1 hx, UInt8.toNat_ofNat']
   omega
  ·rcases List.mem_append.1 hx with hx | hx
   ·exact dec_ok f (u / 10) (by omega) x hx
   ·rw [List.mem_singleton.1 hx, UInt8.toNat_ofNat']
    omega
theorem itoa_ok {n : Int} (h : 0 ≤ n) : ∀ x ∈ Lib.itoa n, 48 ≤ x.toNat ∧ x.toNat ≤ 57 := fun x hx => by
 unfold Lib.itoa at hx
 rw [if_neg (by omega)] at hx
 exact dec_ok _ _ (Nat.lt_succ_self _) x hx
theorem nameL_okN {ix : Int} (h1 : 0 ≤ ix) (h2 : ix ≤ 1099511627776) : okN (nameL ix) = true := by
 have hl := nameL_len h1 h2
 have h5 : 5 ≤ (nameL ix).length := by unfold nameL pre5; simp
 have ha : (nameL ix).all okB = true := by
  rw [List.all_eq_true]
  intro x hx
  unfold nameL at hx
  rcases List.mem_append.1 hx with hx | hx
  ·have : ∀ y ∈ pre5, okB y = true := by decide
   exact this x hx
  ·exact okB_true (.inr (.inl (itoa_ok (by omega) x (List.mem_of_mem_drop hx))))
 unfold okN
 rw [ha]
 have hl2 : (nameL ix).length ≤ 32 := by omega
 simp [hl2]
 omega
theorem nameL_isV (ix : Int) : isV (nameL ix) = true := by
 unfold isV nameL Lib.hasPrefix
 simp [pre, pre5]
theorem okN_fresh : okN freshN = true := by decide
theorem nameL_ne {ix : Int} (h1 : 0 ≤ ix) : nameL ix ≠ freshN := by
 intro e
 have hx : ∀ x ∈ (Lib.itoa (10000000000000 + ix)).drop 1, 48 ≤ x.toNat ∧ x.toNat ≤ 57 := fun x hx => itoa_ok (by omega) x (List.mem_of_mem_drop hx)
 have e2 : (Lib.itoa (10000000000000 + ix)).drop 1 = [110, 101, 119] := by
  have : (nameL ix).drop 5 = freshN.drop 5 := by rw [e]
  unfold nameL at this
  rw [show (5 : Nat) = pre5.length from rfl, List.drop_left] at this
  exact this
 rw [e2] at hx
 have := hx 110 (by simp)
 simp at this
end Go.Proofs.YtgbdjcekpdfpjaaGreatDoor
namespace Go.Proofs.YtgbdjcekpdfpjaaGreatDoor
open Go.RowKit
theorem put_put {F : Fl} (hF : Rises F) (k b c : List UInt8) : put (put F k b) k c = put F k c := by
 refine Rises.ext ((hF.put _ _).put _ _) (hF.put _ _) fun x => ?_
 rw [get_put, get_put, get_put]
 split <;> rfl
theorem del_put {F : Fl} (hF : Rises F) {k : List UInt8} (h : get F k = none) (b : List UInt8) : del (put F k b) k = F := by
 refine Rises.ext ((hF.put _ _).del _) hF fun x => ?_
 rw [get_del, get_put]
 split
 ·rename_i e; rw [← e, h]
 ·rfl
structure Dk.Quiet (st : Dk) : Prop where
 down : st.down = false
 fn : st.fn = 0
 rises : Rises st.last
theorem Dk.Quiet.seen {st : Dk} (h : st.Quiet) : Rises st.seen := runs_rises h.rises st.acts
theorem Dk.Quiet.perf {st : Dk} (h : st.Quiet) (d : Deed) : st.perf d = (0, st.act d) := by unfold Dk.perf; rw [if_neg (by rw [h.fn]; omega)]
theorem Dk.Quiet.act {st : Dk} (h : st.Quiet) (d : Deed) : (st.act d).Quiet := ⟨h.down, by show st.fn - 1 = 0; rw [h.fn], h.rises⟩
theorem act_seen (st : Dk) (d : Deed) : (st.act d).seen = d.run st.seen 0 := by
 show runs st.last (st.acts ++ [d]) = _
 rw [runs_snoc]; rfl
theorem act_used (st : Dk) (d : Deed) : (st.act d).used = st.used + d.size := by
 show total st.last + sizes (st.acts ++ [d]) = total st.last + sizes st.acts + d.size
 rw [sizes_snoc]; omega
theorem Dk.Quiet.sync {st : Dk} (h : st.Quiet) : st.sync = (0, { st with fn := 0, last := st.seen, acts := [] }) := by
 unfold Dk.sync
 rw [if_neg (by rw [h.down]; simp), if_neg (by rw [h.fn]; omega), h.fn]
theorem Dk.Quiet.rdy {st : Dk} (h : st.Quiet) {k : List UInt8} (hk : okN k = true) : rdy st.down k = 0 := by unfold Go.Proofs.YtgbdjcekpdfpjaaGreatDoor.rdy; rw [h.down]; simp [hk]
theorem over_end (o m : List UInt8) : over o o.length m = o ++ m := by
 unfold over
 rw [List.take_length, List.drop_of_length_le (by omega), List.append_nil]
theorem write_end {st : Dk} (h : st.Quiet) {k P b : List UInt8} (hk : okN k = true) (hg : (get st.seen k = none ∧ P = []) ∨ get st.seen k = some P) (hfew : st.seen.length < 4096) (hroom : st.used + b.length ≤ st.room) :
  st.write k P.length b = (0, st.act (.put k P.length b)) ∧ (st.act (.put k P.length b)).seen = put st.seen k (P ++ b) := by
 have hs : (st.act (.put k P.length b)).seen = put st.seen k (P ++ b) := by
  rw [act_seen]
  show put st.seen k (over ((get st.seen k).getD []) P.length (b.take (b.length - 0))) = _
  have e : (get st.seen k).getD [] = P := by
   rcases hg with ⟨h1, rfl⟩ | h1
   ·rw [h1]; rfl
   ·rw [h1]; rfl
  rw [e, Nat.sub_zero, List.take_length, over_end]
 refine ⟨?_, hs⟩
 unfold Dk.write
 rw [if_neg (by rw [h.rdy hk]; omega)]
 rcases hg with ⟨h1, rfl⟩ | h1
 ·rw [h1]
  dsimp only
  rw [if_neg (by simp), if_neg (by omega), if_neg (by omega), h.perf]
  rfl
 ·rw [h1]
  dsimp only
  rw [if_neg (by omega), if_neg (by omega), h.perf]
  rfl
theorem writes_ok : ∀ (l : List (List UInt8)) {st : Dk} {P : List UInt8}, st.Quiet → ((get st.seen freshN = none ∧ P = []) ∨ get st.seen freshN = some P) → st.seen.length < 4096 → (get st.seen freshN = none → st.seen.length < 4095) → st.used + l.flatten.length ≤ st.room →
  ∃ y, writesL l P.length st = (0, y) ∧ y.Quiet ∧ y.last = st.last ∧ y.room = st.room ∧ y.keep = st.keep ∧ y.tear = st.tear ∧ y.used = st.used + l.flatten.length ∧ y.acts = st.acts ++ (y.acts.drop st.acts.length) ∧ (l ≠ [] → y.seen = put st.seen freshN (P ++ l.flatten)) ∧ (∀ d ∈ y.acts.drop st.acts.length, ∃ a b, d = .put freshN a b)
 | [], st, P, h, _, _, _, _ => ⟨st, rfl, h, rfl, rfl, rfl, rfl, by simp, by simp, fun h => absurd rfl h, by simp⟩
 | b :: r, st, P, h, hg, hf, hf', hroom => by
  simp only [List.flatten_cons, List.length_append] at hroom
  obtain ⟨h1, h2⟩ := write_end (b := b) h okN_fresh hg hf (by omega)
  obtain ⟨st2, hst2⟩ : ∃ s, st.act (.put freshN P.length b) = s := ⟨_, rfl⟩
  have hq2 : st2.Quiet := hst2 ▸ h.act _
  rw [hst2] at h1 h2
  have hu2 : st2.used = st.used + b.length := by rw [← hst2, act_used]; rfl
  have hg2 : get st2.seen freshN = some (P ++ b) := by rw [h2, get_put, if_pos rfl]
  have hl2 : st2.seen.length < 4096 := by
   rw [h2, length_put h.seen]
   rcases hg with ⟨e, _⟩ | e
   ·rw [e]; have := hf' e; simp; omega
   ·rw [e]; simpa using hf
  have hr2 : st2.room = st.room := by rw [← hst2]; rfl
  obtain ⟨y, k1, k2, k3, k4, k5, k6, k7, k8, k9, k10⟩ := writes_ok r (P := P ++ b) hq2 (.inr hg2) hl2 (fun e => by rw [hg2] at e; cases e) (by rw [hu2, hr2]; omega)
  have ha2 : st2.acts = st.acts ++ [.put freshN P.length b] := by rw [← hst2]; rfl
  refine ⟨y, ?_, k2, by rw [k3, ← hst2]; rfl, by rw [k4, hr2], by rw [k5, ← hst2]; rfl, by rw [k6, ← hst2]; rfl, by rw [k7, hu2]; simp; omega, ?_, fun _ => ?_, ?_⟩
  ·unfold writesL
   rw [h1, if_pos rfl]
   dsimp only
   rw [← List.length_append]; exact k1
  ·rw [k8, ha2]
   simp
  ·by_cases hr : r = []
   ·subst hr
    have : y = st2 := by simp [writesL] at k1; exact k1.symm
    rw [this, h2]
    simp
   ·rw [k9 hr, h2, put_put h.seen]
    simp
  ·intro d hd
   rw [k8, ha2] at hd
   simp only [List.append_assoc, List.drop_left', List.singleton_append] at hd
   rcases List.mem_cons.1 hd with rfl | hd
   ·exact ⟨_, _, rfl⟩
   ·exact k10 d (by rw [ha2]; exact hd)
theorem recs_ne (k : Sn) : k.recs ≠ [] := by unfold Sn.recs; simp
theorem keepS_ok {st : Dk} {k : Sn} (h : st.Quiet) (hno : get st.seen freshN = none) (hfew : st.seen.length < 4095) (hroom : st.used + k.file.length ≤ st.room) (hk : k.chk = 0) (ok : st.Ok) :
  ∃ y, st.keepS k = (0, y) ∧ y.Quiet ∧ y.last = put st.seen k.name k.file ∧ y.acts = [] ∧ y.room = st.room ∧ y.used ≤ st.used + k.file.length ∧ y.keep = st.keep ∧ y.tear = st.tear := by
 have hix := chk_ix hk
 have hnm : k.name = nameL k.ix := by unfold Sn.name; rw [if_pos (by omega)]
 obtain ⟨y1, h1, q1, l1, r1, p1, t1, u1, _, s1, _⟩ := writes_ok k.recs (P := []) h (.inl ⟨hno, rfl⟩) (by omega) (fun _ => hfew) hroom
 have s1 := s1 (recs_ne k)
 rw [List.nil_append] at s1
 have e2 : st.keep2 k = (0, { y1 with fn := 0, last := y1.seen, acts := [] }) := by
  unfold Dk.keep2 Dk.keep1
  rw [show writesL k.recs 0 st = (0, y1) from h1, seqE_go rfl]
  exact q1.sync
 obtain ⟨y2, hy2⟩ : ∃ y, ({ y1 with fn := 0, last := y1.seen, acts := [] } : Dk) = y := ⟨_, rfl⟩
 rw [hy2] at e2
 have q2 : y2.Quiet := by rw [← hy2]; exact ⟨q1.down, rfl, q1.seen⟩
 have s2 : y2.seen = put st.seen freshN k.file := by rw [← hy2]; exact s1
 have e3 : st.keep3 k = (0, y2.act (.move freshN k.name)) := by
  unfold Dk.keep3
  rw [e2, seqE_go rfl]
  show y2.move freshN k.name = _
  unfold Dk.move
  rw [if_neg (by rw [q2.rdy okN_fresh]; omega), s2, get_put, if_pos rfl]
  dsimp only
  rw [if_neg (by rw [hnm, nameL_okN (by omega) hix.2]; simp), q2.perf]
 have q3 := q2.act (.move freshN k.name)
 have s3 : (y2.act (.move freshN k.name)).seen = put st.seen k.name k.file := by
  rw [act_seen]
  show put (del y2.seen freshN) k.name ((get y2.seen freshN).getD []) = _
  rw [s2, get_put, if_pos rfl, del_put h.seen hno]
  rfl
 refine ⟨{ (y2.act (.move freshN k.name)) with fn := 0, last := (y2.act (.move freshN k.name)).seen, acts := [] }, by rw [keepS_eq, e3, seqE_go rfl]; exact q3.sync, ⟨q3.down, rfl, q3.seen⟩, s3, rfl, ?_, ?_, ?_, ?_⟩
 ·show y2.room = st.room
  rw [← hy2]; exact r1
 ·show total (y2.act (.move freshN k.name)).seen + sizes [] ≤ _
  rw [s3]
  have ht := total_put h.seen k.name k.file
  have hu := seen_total ok
  have : sizes [] = 0 := rfl
  omega
 ·show y2.keep = st.keep
  rw [← hy2]; exact p1
 ·show y2.tear = st.tear
  rw [← hy2]; exact t1
end Go.Proofs.YtgbdjcekpdfpjaaGreatDoor
namespace Go.Proofs.YtgbdjcekpdfpjaaGreatDoor
open Go.RowKit
def padN : Nat → Nat → List UInt8
 | 0, _ => []
 | k + 1, n => padN k (n / 10) ++ [UInt8.ofNat (48 + n % 10)]
theorem padN_len : ∀ (k n : Nat), (padN k n).length = k
 | 0, _ => rfl
 | k + 1, n => by simp [padN, padN_len k]
theorem dec_pad : ∀ (k n c : Nat), 1 ≤ c → n < 10 ^ k → Lib.decDigits (10 ^ k * c + n) = Lib.decDigits c ++ padN k n
 | 0, n, c, _, h => by
  have : n = 0 := by simpa using h
  subst this
  simp [padN]
 | k + 1, n, c, hc, h => by
  have hp : 10 ^ (k + 1) = 10 * 10 ^ k := by rw [Nat.pow_succ, Nat.mul_comm]
  have h1 : 0 < 10 ^ k := Nat.pow_pos (by omega)
  have h2 : 10 ≤ 10 ^ (k + 1) * c + n := by
   have : 10 ^ (k + 1) * 1 ≤ 10 ^ (k + 1) * c := Nat.mul_le_mul_left _ hc
   omega
  have hm : 10 ^ (k + 1) * c = 10 * (10 ^ k * c) := by rw [hp, Nat.mul_assoc]
  have hd : (10 ^ (k + 1) * c + n) / 10 = 10 ^ k * c + n / 10 := by omega
  have hr : (10 ^ (k + 1) * c + n) % 10 = n % 10 := by omega
  rw [Lib.decDigits, dif_neg (by omega), hd, hr, dec_pad k (n / 10) c hc (by omega)]
  simp [padN]
theorem nameL_pad {ix : Int} (h1 : 0 ≤ ix) (h2 : ix ≤ 1099511627776) : nameL ix = pre5 ++ padN 13 ix.toNat := by
 unfold nameL Lib.itoa
 rw [if_neg (by omega)]
 have e : (10000000000000 + ix).toNat = 10 ^ 13 * 1 + ix.toNat := by omega
 rw [e, dec_pad 13 ix.toNat 1 (Nat.le_refl _) (by omega)]
 have : Lib.decDigits 1 = [49] := by rw [Lib.decDigits, dif_pos (by omega)]; rfl
 rw [this]
 rfl
theorem lt_append : ∀ {a b c d : List UInt8}, a < b → a.length = b.length → a ++ c < b ++ d
 | [], b, c, d, h, hl => by
  rw [List.eq_nil_of_length_eq_zero hl.symm] at h
  exact absurd h (List.lt_irrefl _)
 | x :: a, [], c, d, h, hl => by simp at hl
 | x :: a, y :: b, c, d, h, hl => by
  rw [List.cons_append, List.cons_append, List.cons_lt_cons_iff]
  rcases List.cons_lt_cons_iff.1 h with h1 | ⟨h1, h2⟩
  ·exact .inl h1
  ·exact .inr ⟨h1, lt_append h2 (by simpa using hl)⟩
theorem append_lt : ∀ (a : List UInt8) {c d : List UInt8}, c < d → a ++ c < a ++ d
 | [], c, d, h => h
 | x :: a, c, d, h => by
  rw [List.cons_append, List.cons_append, List.cons_lt_cons_iff]
  exact .inr ⟨rfl, append_lt a h⟩
theorem padN_lt : ∀ (k : Nat) {m n : Nat}, m < n → n < 10 ^ k → padN k m < padN k n
 | 0, m, n, h, h' => by simp at h'; omega
 | k + 1, m, n, h, h' => by
  have hp : 10 ^ (k + 1) = 10 * 10 ^ k := by rw [Nat.pow_succ, Nat.mul_comm]
  unfold padN
  by_cases hd : m / 10 < n / 10
  ·exact lt_append (padN_lt k hd (by omega)) (by rw [padN_len, padN_len])
  ·have e : m / 10 = n / 10 := by omega
   rw [e]
   refine append_lt _ ?_
   rw [List.cons_lt_cons_iff]
   refine .inl ?_
   rw [UInt8.lt_iff_toNat_lt, UInt8.toNat_ofNat', UInt8.toNat_ofNat']
   omega
theorem nameL_lt {i j : Int} (h0 : 0 ≤ i) (h : i < j) (h1 : j ≤ 1099511627776) : nameL i < nameL j := by
 rw [nameL_pad h0 (by omega), nameL_pad (by omega) h1]
 exact append_lt _ (padN_lt 13 (by omega) (by omega))
theorem nameL_inj {i j : Int} (h0 : 0 ≤ i) (h1 : 0 ≤ j) (h2 : i ≤ 1099511627776) (h3 : j ≤ 1099511627776) (h : nameL i = nameL j) : i = j := by
 by_cases h4 : i < j
 ·have := nameL_lt h0 h4 h3
  rw [h] at this
  exact absurd this (List.lt_irrefl _)
 ·by_cases h5 : j < i
  ·have := nameL_lt h1 h5 h2
   rw [h] at this
   exact absurd this (List.lt_irrefl _)
  ·omega
end Go.Proofs.YtgbdjcekpdfpjaaGreatDoor
namespace Go.Proofs.YtgbdjcekpdfpjaaGreatDoor
open Go.RowKit
theorem fresh_none (b : List UInt8) : stateL freshN b = none := by
 cases h : stateL freshN b with
 | none => rfl
 | some s =>
  obtain ⟨h1, h2, _⟩ := stateL_some h
  have hx := chk_ix h1
  have : s.name = nameL s.ix := by unfold Sn.name; rw [if_pos (by omega)]
  exact absurd (this ▸ h2) (nameL_ne (by omega))
theorem findN_skip {st : Dk} {n : List UInt8} {r : List (List UInt8)} (h : stateL n (st.readB n) = none) : findN st (n :: r) = findN st r := by
 conv => lhs; unfold findN
 rw [h]
theorem findN_take {st : Dk} {n : List UInt8} {r : List (List UInt8)} {s : Sn} (h : stateL n (st.readB n) = some s) : findN st (n :: r) = some s := by
 conv => lhs; unfold findN
 rw [h]
theorem name_chk {s : Sn} (h : s.chk = 0) : s.name = nameL s.ix ∧ okN s.name = true ∧ isV s.name = true := by
 have hx := chk_ix h
 have e : s.name = nameL s.ix := by unfold Sn.name; rw [if_pos (by omega)]
 exact ⟨e, by rw [e]; exact nameL_okN (by omega) hx.2, by rw [e]; exact nameL_isV _⟩
theorem read_get {st : Dk} (hd : st.down = false) {k b : List UInt8} (hk : okN k = true) (hg : get st.seen k = some b) : st.readB k = b := by
 unfold Dk.readB rdy
 rw [hd]
 simp [hk, hg]
theorem othersL_ok (own : List UInt8) : ∀ (l : List (List UInt8)) {st : Dk}, st.Quiet → (∀ n ∈ l, (get st.seen n).isSome ∧ okN n = true) → l.Nodup →
  ∃ y, othersL own l st = (0, y) ∧ y.Quiet ∧ y.last = st.last ∧ y.room = st.room ∧ y.keep = st.keep ∧ y.tear = st.tear ∧ y.seen = st.seen.filter (fun p => decide (p.1 = own ∨ p.1 ∉ l)) ∧ ∃ ds, y.acts = st.acts ++ ds ∧ ∀ d ∈ ds, ∃ n ∈ l, n ≠ own ∧ d = .drop n
 | [], st, h, _, _ => ⟨st, rfl, h, rfl, rfl, rfl, rfl, (List.filter_eq_self.2 (by simp)).symm, [], by simp, by simp⟩
 | n :: r, st, h, hl, hnd => by
  obtain ⟨hn1, hn2⟩ := List.nodup_cons.1 hnd
  by_cases ho : n = own
  ·obtain ⟨y, h1, h2, h3, h4, h5, h6, h7, ds, h8, h9⟩ := othersL_ok own r h (fun m hm => hl m (List.mem_cons_of_mem _ hm)) hn2
   refine ⟨y, by rw [othersL_own ho]; exact h1, h2, h3, h4, h5, h6, ?_, ds, h8, fun d hd => by obtain ⟨m, a, b, c⟩ := h9 d hd; exact ⟨m, List.mem_cons_of_mem _ a, b, c⟩⟩
   rw [h7]
   refine List.filter_congr fun p hp => decide_eq_decide.2 ?_
   constructor
   ·rintro (h | h)
    ·exact .inl h
    ·by_cases e : p.1 = own
     ·exact .inl e
     ·refine .inr fun hm => ?_
      rcases List.mem_cons.1 hm with hm | hm
      ·exact e (hm.trans ho)
      ·exact h hm
   ·rintro (h | h)
    ·exact .inl h
    ·exact .inr fun hm => h (List.mem_cons_of_mem _ hm)
  ·obtain ⟨hg, hk⟩ := hl n (List.mem_cons_self ..)
   obtain ⟨v, hv⟩ := Option.isSome_iff_exists.1 hg
   have hd : st.drop n = (0, st.act (.drop n)) := by
    unfold Dk.drop
    rw [if_neg (by rw [h.rdy hk]; omega), hv]
    exact h.perf _
   have hs : (st.act (.drop n)).seen = del st.seen n := by rw [act_seen]; rfl
   obtain ⟨y, h1, h2, h3, h4, h5, h6, h7, ds, h8, h9⟩ := othersL_ok own r (h.act (.drop n)) (fun m hm => by
    have hmn : ¬ n = m := fun e => hn1 (e ▸ hm)
    rw [hs, get_del, if_neg hmn]
    exact hl m (List.mem_cons_of_mem _ hm)) hn2
   refine ⟨y, by rw [othersL_go ho hd, if_pos rfl]; exact h1, h2, h3, h4, h5, h6, ?_, .drop n :: ds, by rw [h8]; show (st.acts ++ [.drop n]) ++ ds = _; simp, fun d hd => ?_⟩
   ·rw [h7, hs]
    unfold del
    rw [List.filter_filter]
    refine List.filter_congr fun p hp => ?_
    rw [← Bool.decide_and]
    refine decide_eq_decide.2 ?_
    constructor
    ·rintro ⟨h | h, h'⟩
     ·exact .inl h
     ·refine .inr fun hm => ?_
      rcases List.mem_cons.1 hm with hm | hm
      ·exact h' hm
      ·exact h hm
    ·rintro (h | h)
     ·exact ⟨.inl h, fun e => ho (e.symm.trans h)⟩
     ·exact ⟨.inr fun hm => h (List.mem_cons_of_mem _ hm), fun e => h (e ▸ List.mem_cons_self ..)⟩
   ·rcases List.mem_cons.1 hd with rfl | hd
    ·exact ⟨n, List.mem_cons_self .., ho, rfl⟩
    ·obtain ⟨m, a, b, c⟩ := h9 d hd
     exact ⟨m, List.mem_cons_of_mem _ a, b, c⟩
theorem names_nodup {st : Dk} (h : Rises st.seen) : st.names.Nodup := by
 unfold Dk.names
 split
 ·exact List.Pairwise.nil
 ·unfold Rises at h
  rw [List.Nodup, List.pairwise_map]
  exact h.imp fun {a b} (hlt : a.1 < b.1) (e : a.1 = b.1) => nm_irrefl _ (by rw [e] at hlt; exact hlt)
theorem get_names {st : Dk} (hr : Rises st.seen) {n : List UInt8} (hn : n ∈ st.names) : (get st.seen n).isSome = true := by
 unfold Dk.names at hn
 split at hn
 ·cases hn
 ·obtain ⟨p, hp, rfl⟩ := List.mem_map.1 hn
  rw [get_of_mem hr (show (p.1, p.2) ∈ st.seen from hp)]
  rfl
theorem openV_ok {st : Dk} (h : st.Quiet) (ha : AllOk st.seen) : ∃ y, st.openV = (0, y) ∧ y.Quiet ∧ y.acts = [] ∧ y.last = st.seen.filter (fun p => decide (p.1 = st.found.name ∨ isV p.1 = false)) ∧ y.room = st.room ∧ y.keep = st.keep ∧ y.tear = st.tear := by
 obtain ⟨x, h1, h2, h3, h4, h5, h6, h7, ds, h8, h9⟩ := othersL_ok st.found.name (st.names.filter isV) h (fun n hn => by
  have hm := (List.mem_filter.1 hn).1
  refine ⟨get_names h.seen hm, ?_⟩
  unfold Dk.names at hm
  rw [if_neg (by rw [h.down]; simp)] at hm
  obtain ⟨p, hp, rfl⟩ := List.mem_map.1 hm
  exact ha p hp) ((names_nodup h.seen).filter _)
 have hs := h2.sync
 refine ⟨{ x with fn := 0, last := x.seen, acts := [] }, ?_, ⟨h2.down, rfl, h2.seen⟩, rfl, ?_, h4, h5, h6⟩
 ·unfold Dk.openV
  rw [if_neg (by show ¬ (st.others st.found.name).1 ≠ 0; unfold Dk.others; rw [h1]; simp)]
  unfold Dk.others
  rw [h1]
  exact hs
 ·show x.seen = _
  rw [h7]
  refine List.filter_congr fun p hp => decide_eq_decide.2 ?_
  have hin : p.1 ∈ st.names := by
   unfold Dk.names
   rw [if_neg (by rw [h.down]; simp)]
   exact List.mem_map.2 ⟨p, hp, rfl⟩
  constructor
  ·rintro (h | h)
   ·exact .inl h
   ·refine .inr ?_
    cases hv : isV p.1 with
    | false => rfl
    | true => exact absurd (List.mem_filter.2 ⟨hin, hv⟩) h
  ·rintro (h | h)
   ·exact .inl h
   ·exact .inr fun hm => by rw [(List.mem_filter.1 hm).2] at h; cases h
def filesOf (s : Sn) : Fl := if 0 < s.ix then [(s.name, s.file)] else []
structure Rest (st : Dk) (s : Sn) : Prop where
 q : st.Quiet
 ok : st.Ok
 seen : st.seen = filesOf s
 good : s = sn0 ∨ s.chk = 0
theorem Rest.found {st : Dk} {s : Sn} (h : Rest st s) : st.found = s := by
 have hn : st.names = (filesOf s).map (·.1) := by unfold Dk.names; rw [if_neg (by rw [h.q.down]; simp), h.seen]
 rcases h.good with rfl | hc
 ·unfold Dk.found
  rw [hn]
  rfl
 ·have hx := chk_ix hc
  obtain ⟨e1, e2, e3⟩ := name_chk hc
  have hf : filesOf s = [(s.name, s.file)] := by unfold filesOf; rw [if_pos (by omega)]
  unfold Dk.found
  rw [hn, hf]
  simp only [List.map_cons, List.map_nil, List.filter_cons, e3, if_true, List.filter_nil, List.reverse_cons, List.reverse_nil, List.nil_append]
  rw [findN_take (s := s) (by rw [read_get (b := s.file) h.q.down e2 (by rw [h.seen, hf]; simp [get])]; exact stateL_file hc)]
  rfl
theorem Rest.save {st : Dk} {s k : Sn} (h : Rest st s) (hk : k.chk = 0) (hx : s.ix < k.ix) (hroom : st.used + k.file.length ≤ st.room) (hmany : st.acts.length < 1000) : ∃ y, saveL s st k = (0, k, y) ∧ y.Quiet ∧ y.seen = filesOf k ∧ y.room = st.room ∧ y.used ≤ st.used + k.file.length ∧ y.keep = st.keep ∧ y.tear = st.tear ∧ y.acts.length ≤ 1 ∧ (s.ix ≤ 0 → y.acts = []) := by
 have hkx := chk_ix hk
 obtain ⟨ek1, ek2, ek3⟩ := name_chk hk
 have hks : filesOf k = [(k.name, k.file)] := by unfold filesOf; rw [if_pos (by omega)]
 have hno : get st.seen freshN = none := by
  rw [h.seen]
  unfold filesOf
  split
  ·rename_i hs0
   have : s.name ≠ freshN := by unfold Sn.name; rw [if_pos hs0]; exact nameL_ne (by omega)
   simp [get, this]
  ·rfl
 have hfew : st.seen.length < 4095 := by rw [h.seen]; unfold filesOf; split <;> simp
 obtain ⟨y, h1, h2, h3, h4, h5, h6, h7, h8⟩ := keepS_ok h.q hno hfew hroom hk h.ok
 have hy : y.seen = put (filesOf s) k.name k.file := by
  unfold Dk.seen
  rw [h4]
  show y.last = _
  rw [h3, h.seen]
 by_cases hs0 : 0 < s.ix
 ·have hc : s.chk = 0 := by
   rcases h.good with rfl | hc
   ·simp [sn0] at hs0
   ·exact hc
  have hsx := chk_ix hc
  obtain ⟨es1, es2, es3⟩ := name_chk hc
  have hne : ¬ k.name = s.name := fun e => by
   rw [ek1, es1] at e
   have := nameL_inj (by omega) (by omega) hkx.2 hsx.2 e
   omega
  have hf : filesOf s = [(s.name, s.file)] := by unfold filesOf; rw [if_pos hs0]
  have hg : get y.seen s.name = some s.file := by rw [hy, get_put, if_neg hne, hf]; simp [get]
  have hd : y.drop s.name = (0, y.act (.drop s.name)) := by
   unfold Dk.drop
   rw [if_neg (by rw [h2.rdy es2]; omega), hg]
   exact h2.perf _
  have hsa : saveL s st k = (0, k, y.act (.drop s.name)) := by
   unfold saveL
   rw [if_neg (by omega), if_neg (by omega), h1]
   dsimp only
   rw [if_neg (by simp), if_pos hs0, hd]
  refine ⟨_, hsa, h2.act _, ?_, h5, by rw [act_used]; exact h6, h7, h8, ?_, fun h => by omega⟩
  ·rw [act_seen]
   show del y.seen s.name = _
   have hr2 : Rises [(s.name, s.file)] := List.Pairwise.cons (by simp) List.Pairwise.nil
   rw [hy, hks, hf]
   refine Rises.ext ((hr2.put _ _).del _) (List.Pairwise.cons (by simp) List.Pairwise.nil) fun x => ?_
   rw [get_del, get_put]
   by_cases e1 : s.name = x
   ·rw [if_pos e1]
    have : ¬ k.name = x := fun e => hne (e.trans e1.symm)
    simp [get, this]
   ·rw [if_neg e1]
    by_cases e2 : k.name = x
    ·rw [if_pos e2]; simp [get, e2]
    ·rw [if_neg e2]; simp [get, e1, e2]
  ·show (y.acts ++ [Deed.drop s.name]).length ≤ 1
   rw [h4]; simp
 ·have hf : filesOf s = [] := by unfold filesOf; rw [if_neg hs0]
  have hsa : saveL s st k = (0, k, y) := by
   unfold saveL
   rw [if_neg (by omega), if_neg (by omega), h1]
   dsimp only
   rw [if_neg (by simp), if_neg hs0]
  refine ⟨y, hsa, h2, ?_, h5, h6, h7, h8, by rw [h4]; simp, fun _ => h4⟩
  rw [hy, hf, hks]
  rfl
theorem save_old {s k : Sn} {st : Dk} (hk : k.chk = 0) (hx : k.ix ≤ s.ix) : saveL s st k = (51, s, st) := by unfold saveL; rw [if_neg (by omega), if_pos hx]
end Go.Proofs.YtgbdjcekpdfpjaaGreatDoor
