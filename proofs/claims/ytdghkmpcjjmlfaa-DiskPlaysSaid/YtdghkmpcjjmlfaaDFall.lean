/- The power goes. -/
import Derived.Test.YtdghkmpcjjmlfaaDSettle
namespace Go.Proofs.Ytdghkmpcjjmlfaa
open Go.RowKit

theorem runs_rises {F : Fl} (hF : Rises F) (ds : List Deed) : Rises (runs F ds) := by
  unfold runs
  induction ds generalizing F with
  | nil => exact hF
  | cons d r ih => exact ih (d.rises hF 0)

theorem sizes_take_le (ds : List Deed) (i : Nat) : sizes (ds.take i) ≤ sizes ds := by
  unfold sizes
  rw [List.map_take]
  conv => rhs; rw [← List.take_append_drop i (ds.map Deed.size), List.sum_append]
  omega

theorem runs_total {F : Fl} (hF : Rises F) {ds : List Deed} (hfit : ∀ (i : Nat) (d : Deed), ds[i]? = some d → d.fits (runs F (ds.take i))) :
    ∀ i, i ≤ ds.length → total (runs F (ds.take i)) ≤ total F + sizes (ds.take i)
  | 0, _ => by simp [runs, sizes]
  | i + 1, hi => by
    have ih := runs_total hF hfit i (by omega)
    have hd : ds[i]? = some ds[i] := List.getElem?_eq_getElem (by omega)
    rw [List.take_add_one, hd]
    show total (runs F (ds.take i ++ [ds[i]])) ≤ total F + sizes (ds.take i ++ [ds[i]])
    rw [runs_snoc, sizes_snoc]
    have := Deed.total_le (runs_rises hF (ds.take i)) ds[i] (hfit i _ hd) 0
    omega

/-- The files that last behind some acts. -/
theorem settleF_ok {st : Dk} (ok : st.Ok) {K : Nat} (hK : K ≤ st.acts.length) (T : Nat) : Rises (settleF st.last st.acts K T) ∧ (settleF st.last st.acts K T).length ≤ 4096 ∧ total (settleF st.last st.acts K T) ≤ st.used := by
  unfold settleF
  by_cases h0 : K = 0
  · rw [if_pos h0]
    refine ⟨ok.rises, by have := ok.few 0 (by omega); simpa [runs] using this, by unfold Dk.used; omega⟩
  · rw [if_neg h0]
    have hd : st.acts[K - 1]? = some st.acts[K - 1] := List.getElem?_eq_getElem (by omega)
    rw [hd]
    simp only
    have hr := runs_rises ok.rises (st.acts.take (K - 1))
    have e : runs st.last (st.acts.take K) = (st.acts[K - 1]).run (runs st.last (st.acts.take (K - 1))) 0 := by
      have : st.acts.take K = st.acts.take (K - 1) ++ [st.acts[K - 1]] := by
        conv => lhs; rw [show K = K - 1 + 1 by omega]
        rw [List.take_add_one, hd]
        rfl
      rw [this, runs_snoc]
    refine ⟨Deed.rises hr _ _, ?_, ?_⟩
    · rw [Deed.few hr, ← e]
      exact ok.few K hK
    · have h1 := Deed.total_le hr st.acts[K - 1] (ok.fits _ _ hd) (min T (st.acts[K - 1]).size)
      have h2 := runs_total ok.rises ok.fits (K - 1) (by omega)
      have h3 := sizes_take_le st.acts K
      have h4 : sizes (st.acts.take K) = sizes (st.acts.take (K - 1)) + (st.acts[K - 1]).size := by
        have : st.acts.take K = st.acts.take (K - 1) ++ [st.acts[K - 1]] := by
          conv => lhs; rw [show K = K - 1 + 1 by omega]
          rw [List.take_add_one, hd]
          rfl
        rw [this, sizes_snoc]
      unfold Dk.used
      omega

/-- The disk when the power has gone. -/
def Dk.fall (st : Dk) (keep tear : Int) : Dk := { room := st.room, down := true, last := settleF st.last st.acts (min (max keep 0).toNat st.acts.length) (max tear 0).toNat, acts := [], fn := 0, keep := 0, tear := 0 }

theorem Dk.Ok.fall {st : Dk} (ok : st.Ok) (keep tear : Int) : (st.fall keep tear).Ok := by
  obtain ⟨h1, h2, h3⟩ := settleF_ok ok (K := min (max keep 0).toNat st.acts.length) (by omega) (max tear 0).toNat
  refine ⟨h1, fun i d h => by simp [Dk.fall] at h, fun i hi => ?_, ?_, ok.most, fun _ => rfl, by simp [Dk.fall], by simp [Dk.fall]⟩
  · have : i = 0 := by simpa [Dk.fall] using hi
    subst this
    exact h2
  · have := ok.room
    have e : (st.fall keep tear).used = total (settleF st.last st.acts (min (max keep 0).toNat st.acts.length) (max tear 0).toNat) := by simp [Dk.used, Dk.fall, sizes]
    rw [e]
    exact Nat.le_trans h3 this

/-- A disk behind a call. -/
def DPost (w : World) (S C : Nat → Prop) (g : Nat) (st : Dk) (w' : World) : Prop :=
  ∃ S' C', DiskIs w' S' C' g st ∧ Chg w w' S ∧ (∀ i, S' i → S i ∨ w.heap.size ≤ i) ∧ (∀ i, C' i → C i ∨ w.heap.size ≤ i)

theorem chg_set (w : World) (g i : Nat) (x : Value) : Chg w (w.setCell ⟨g, i, none⟩ x) (fun k => k = g) := Chg.of_grown (grown_set _ _ _ _) _ fun k hk => .inl (by injection hk with hk; exact hk.symm)

theorem total_mem {F : Fl} {p : List UInt8 × List UInt8} (h : p ∈ F) : p.2.length ≤ total F := by
  unfold total
  induction F with
  | nil => simp at h
  | cons q r ih =>
    rw [List.map_cons, List.sum_cons]
    rcases List.mem_cons.1 h with rfl | h
    · omega
    · have := ih h
      omega

set_option maxRecDepth 200000 in
set_option maxHeartbeats 4000000 in
theorem fall_any {w : World} {S C : Nat → Prop} {g : Nat} {st : Dk} (h : DiskIs w S C g st) {keep tear : Int} (hk : keep ≤ 9223372036854775807) (hk' : -9223372036854775808 ≤ keep) (ht : tear ≤ 9223372036854775807) (ht' : -9223372036854775808 ≤ tear) :
    Calls Try.prog 52 #[.pointer (some ⟨g, 0, none⟩), .int .i64 keep, .int .i64 tear] w fun e w' => e = .returned (.tuple #[]) ∧ DPost w S C g (st.fall keep tear) w' := by
  obtain ⟨A, L, bs, bl, a, xs, Vs, Vl, Ds, Dl, hh, hA, hL, hacts, sA, sL, sa⟩ := h.parts
  obtain ⟨p, c, rfl, hnc, hp⟩ := hacts.sl
  obtain ⟨n, hn⟩ : ∃ n, n = st.acts.length := ⟨_, rfl⟩
  rw [← hn] at hnc hp hh hacts sA sL sa
  obtain ⟨K, hK⟩ : ∃ K : Nat, K = min (max keep 0).toNat n := ⟨_, rfl⟩
  obtain ⟨T, hT⟩ : ∃ T : Nat, T = (max tear 0).toNat := ⟨_, rfl⟩
  have hnle := h.ok.many
  have eK : min (max keep 0) (n : Int) = (K : Int) := by omega
  have eT : max tear 0 = (T : Int) := by omega
  obtain ⟨F, hF⟩ : ∃ F, F = settleF st.last st.acts K T := ⟨_, rfl⟩
  obtain ⟨f1, f2, f3⟩ := settleF_ok h.ok (K := K) (by omega) T
  have h4 := h.ok.room
  have h5 := h.ok.most
  have hset := settle_any (L := L) (C := C) hh hL hacts (fun i hi h1 => h.sep i (sL i h1).1 hi) h.cap (fun i hi => h.sap i (sL i hi).1) (fun h1 => (sL g h1).2.1 rfl) (fun i hi h1 => (sL i h1).2.2 hi) h.ok.fits h.ok.few h.ok.many (keep := K) (tear := T) (by omega) (by omega)
  rw [← hF] at hset f1 f2 f3
  have c5 := hh.c5
  have HSET := hide hset
  have HK := hide eK
  have HT := hide eT
  have HN := hide hn
  have HF := hide hF
  clear hset eK eT hn hF hK hT
  go_enter Try.func52, Try.ntmps52
  go_wp2_with fail
  rw [HK.out, HT.out]
  refine HSET.out.mono ?_
  rintro e w1 ⟨rfl, V', D', hh1, hF1, hc1⟩
  have hgw := hh.lt
  have hs1 := hc1.size
  have hcl := filesClone_any hF1 (fun i hi => by
    rcases hi with hi | hi
    · have := h.sap i (sL i hi).1
      omega
    · exact hi.2) (by omega) (fun p hp => by have := total_mem hp; omega)
  have a3 := hh1.c3
  have HCL := hide hcl
  have HH1 := hide hh1
  have HC1 := hide hc1
  have HF1 := hide hF1
  have HD := hide h
  have HSL := hide sL
  clear hcl hh1 hc1 hF1 h c5 hh hA hL hacts sA sL sa f1 f2 f3 h4 h5
  go_wp2_with fail
  refine HCL.out.mono ?_
  rintro e w2 ⟨b', rfl, hb2, V2, D2, hF2⟩
  have hh2 := HH1.out.chg (Chg.of_below hb2 (fun _ => False)) (fun h => h)
  have q1 := hh2.c1
  have q2 := hh2.c2
  have q4 := hh2.c4
  have q6 := hh2.c6
  have q7 := hh2.c7
  have q8 := hh2.c8
  have v2 := hh2.fr 2
  have v4 := hh2.fr 4
  have v6 := hh2.fr 6
  have v7 := hh2.fr 7
  have v8 := hh2.fr 8
  have HH2 := hide hh2
  have HB2 := hide hb2
  have HF2 := hide hF2
  clear hh2 hb2 hF2 a3
  go_wp2_with fail
  go_end0
  have s4 := Hd.set HH2.out 4 (.map (some b'))
  have s6 := Hd.set s4 6 (.int .i64 0)
  have s7 := Hd.set s6 7 (.int .i64 0)
  have s8 := Hd.set s7 8 (.int .i64 0)
  have s2 := Hd.set s8 2 (.bool true)
  obtain ⟨W, hW⟩ : ∃ W, W = ((((w2.setCell ⟨g, 4, none⟩ (.map (some b'))).setCell ⟨g, 6, none⟩ (.int .i64 0)).setCell ⟨g, 7, none⟩ (.int .i64 0)).setCell ⟨g, 8, none⟩ (.int .i64 0)).setCell ⟨g, 2, none⟩ (.bool true) := ⟨_, rfl⟩
  have hcW : Chg w2 W (fun i => i = g) := by
    rw [hW]
    exact ((((chg_set _ _ _ _).trans (chg_set _ _ _ _) fun _ h => .inl h).trans (chg_set _ _ _ _) fun _ h => .inl h).trans (chg_set _ _ _ _) fun _ h => .inl h).trans (chg_set _ _ _ _) fun _ h => .inl h
  rw [← hW] at s2 ⊢
  have h := HD.out
  have hs2 := HB2.out.size
  have hsW := hcW.size
  have e0 : (st.fall keep tear).last = F := by
    show settleF st.last st.acts (min (max keep 0).toNat st.acts.length) (max tear 0).toNat = F
    have e1 := HK.out
    have e2 := HT.out
    have e3 := HN.out
    rw [HF.out, show min (max keep 0).toNat st.acts.length = K by omega, show (max tear 0).toNat = T by omega]
  have hA3 : FilesIs W (fun i => w1.heap.size ≤ i ∧ i < w2.heap.size) b' F V2 D2 := HF2.out.chg hcW fun i hi e => by omega
  have hL3 : FilesIs W (Ext L w w1) bl F V' D' := (HF1.out.chg (Chg.of_below HB2.out (fun _ => False)) fun _ _ h => h).chg hcW fun i hi e => by
    subst e
    rcases hi with hi | hi
    · exact (HSL.out _ hi).2.1 rfl
    · omega
  have hLlt : ∀ i, Ext L w w1 i → i < w1.heap.size := fun i hi => by
    rcases hi with hi | hi
    · have := h.sap i (HSL.out i hi).1
      omega
    · exact hi.2
  refine ⟨rfl, fun i => Ext L w w1 i ∨ (w1.heap.size ≤ i ∧ i < w2.heap.size) ∨ i = g, fun _ => False, ⟨h.ok.fall keep tear, fun i hi => hi.elim, fun i hi => ?_, fun i _ hi => hi, .inr (.inr rfl),
    ⟨fun i => w1.heap.size ≤ i ∧ i < w2.heap.size, Ext L w w1, b', bl, .slice none 0 0, [], V2, V', D2, D', ?_, ?_, ?_, ActsIs.nil _ _, ?_, ?_, ?_⟩⟩, ?_, ?_, fun i hi => hi.elim⟩
  · rcases hi with hi | hi | hi
    · have := hLlt i hi
      omega
    · omega
    · omega
  · have eu : (st.fall keep tear).used = total F := by rw [← e0]; simp [Dk.used, Dk.fall, sizes]
    rw [eu]
    exact s2
  · have es : (st.fall keep tear).seen = F := by rw [← e0]; rfl
    rw [es]
    exact hA3
  · rw [e0]
    exact hL3
  · exact fun i hi => ⟨.inr (.inl hi), fun hl => by have := hLlt i hl; omega, by omega, fun h => by cases h⟩
  · exact fun i hi => ⟨.inl hi, fun e => by
      subst e
      rcases hi with hi | hi
      · exact (HSL.out _ hi).2.1 rfl
      · omega, fun h => by cases h⟩
  · exact fun i hi => by cases hi
  · refine ((HC1.out.mono (S' := S) fun i hi => ?_).trans (Chg.of_below HB2.out S) fun _ h => .inl h).trans hcW fun k hk => .inl (hk ▸ h.in_)
    rcases hi with hi | hi
    · exact (HSL.out i hi).1
    · exact hi ▸ h.in_
  · intro i hi
    rcases hi with (hi | hi) | hi | hi
    · exact .inl (HSL.out i hi).1
    · exact .inr hi.1
    · exact .inr (by omega)
    · exact .inl (hi ▸ h.in_)
end Go.Proofs.Ytdghkmpcjjmlfaa
