import Derived.Test.YtgbdjcekpdfpjaaGreatDoorDb
set_option linter.unusedVariables false
set_option linter.unusedSimpArgs false
namespace Go.Proofs.YtgbdjcekpdfpjaaGreatDoor
open Go.RowKit
def Dk.write (st : Dk) (k : List UInt8) (at_ : Int) (b : List UInt8) : Nat × Dk :=
 if rdy st.down k ≠ 0 then (rdy st.down k, st) else
 match get st.seen k with
 | none => if at_ ≠ 0 then (21, st) else if 4096 ≤ st.seen.length then (7, st) else if st.room < st.used + b.length then (7, st) else st.perf (.put k 0 b)
 | some o => if at_ < 0 ∨ (o.length : Int) < at_ then (1, st) else if st.room < st.used + b.length then (7, st) else st.perf (.put k at_.toNat b)
theorem DPost.same {w W : World} {S C : Nat → Prop} {g : Nat} {st : Dk} (h : DiskIs w S C g st) (hc : Chg w W (fun _ => False)) : DPost w S C g st W :=
 ⟨S, C, h.chg hc (fun _ _ h => h) (fun _ _ h => h), hc.mono fun _ h => h.elim, fun _ hi => .inl hi, fun _ hi => .inl hi⟩
theorem DiskIs.wide {w : World} {S C C' : Nat → Prop} {g : Nat} {st : Dk} (h : DiskIs w S C g st) (hC : ∀ i, C i → C' i) (hcap : ∀ i, C' i → i < w.heap.size) (hsep : ∀ i, S i → ¬ C' i) : DiskIs w S C' g st := by
 obtain ⟨A, L, bs, bl, a, xs, Vs, Vl, Ds, Dl, h1, h2, h3, h4, h5, h6, h7⟩ := h.parts
 exact ⟨h.ok, hcap, h.sap, hsep, h.in_, A, L, bs, bl, a, xs, Vs, Vl, Ds, Dl, h1, h2, h3, h4.mono hC, h5, h6, h7⟩
theorem DiskIs.boxed {w Z : World} {S C : Nat → Prop} {g : Nat} {st : Dk} (h : DiskIs w S C g st) (hc : Chg w Z (fun _ => False)) {f : Nat} {cs : Array Value} {d : Deed} (hd : DeedAt Z (fun i => w.heap.size ≤ i ∧ i < Z.heap.size) f cs d) :
  ∃ C2, DiskIs Z S C2 g st ∧ DeedAt Z C2 f cs d ∧ ∀ st' w', DPost Z S C2 g st' w' → DPost w S C g st' w' := by
 have hs := hc.size
 refine ⟨fun i => C i ∨ (w.heap.size ≤ i ∧ i < Z.heap.size), (h.chg hc (fun _ _ h => h) (fun _ _ h => h)).wide (fun i hi => .inl hi) (fun i hi => ?_) (fun i hi hC => ?_), hd.mono fun i hi => .inr hi, fun st' w' hp => ?_⟩
 ·rcases hi with hi | hi
  ·have := h.cap i hi
   omega
  ·exact hi.2
 ·rcases hC with hC | hC
  ·exact h.sep i hi hC
  ·have := h.sap i hi
   omega
 ·obtain ⟨S2, C2, h1, h2, h3, h4⟩ := hp
  refine ⟨S2, C2, h1, (hc.mono (S' := S) fun _ h => h.elim).trans h2 fun _ h => .inl h, fun i hi => ?_, fun i hi => ?_⟩
  ·rcases h3 i hi with h | h
   ·exact .inl h
   ·exact .inr (by omega)
  ·rcases h4 i hi with (h | h) | h
   ·exact .inl h
   ·exact .inr h.1
   ·exact .inr (by omega)
theorem put_boxed {w w2 : World} {S C : Nat → Prop} {g : Nat} {st : Dk} (h : DiskIs w S C g st) (hc : Chg w w2 (fun _ => False)) {s : ByteArray} (hs : s.size ≤ maxLen) {at_ : Int} (h0 : 0 ≤ at_) (cs2 : w2.cell? ⟨w.heap.size, 0, none⟩ = some (.string s)) (ca2 : w2.cell? ⟨w.heap.size + 1, 0, none⟩ = some (.int .i64 at_))
  {B : Nat} {q : Option Addr} {n c : Nat} {b : List UInt8} (hr : w2.ownsRow B 5 1 (.slice q n c) b.length (b.map bv)) (hB : w.heap.size + 2 ≤ B) (hw : w.heap.size + 2 ≤ w2.heap.size) :
  ∃ C2, DiskIs (w2.alloc (.cells #[.slice q n c] 40)) S C2 g st ∧ DeedAt (w2.alloc (.cells #[.slice q n c] 40)) C2 76 #[.pointer (some ⟨w.heap.size, 0, none⟩), .pointer (some ⟨w.heap.size + 1, 0, none⟩), .pointer (some ⟨w2.heap.size, 0, none⟩)] (.put s.data.toList at_.toNat b) ∧
   ∀ st' w', DPost (w2.alloc (.cells #[.slice q n c] 40)) S C2 g st' w' → DPost w S C g st' w' := by
 have hZ : Chg w2 (w2.alloc (.cells #[.slice q n c] 40)) (fun _ => False) := Chg.of_below (balloc (Below.refl _ _) _) _
 have hsz := size_alloc' w2 (.cells #[.slice q n c] 40)
 have ea : at_ = ((at_.toNat : Nat) : Int) := by omega
 rw [ea] at ca2
 refine h.boxed (hc.trans hZ fun _ h => .inl h) (.put (hZ.cell cs2 fun h => h) (hZ.cell ca2 fun h => h) (by rw [World.cell?_alloc_new]; rfl) ((by_row (row_mono hr)).chg hZ (.inr fun _ _ h => h)) hs ?_ ?_ ?_ (.inr fun k hk => ?_))
 ·omega
 ·omega
 ·omega
 ·have := hr.lt k hk
  omega
theorem seen_total {st : Dk} (ok : st.Ok) : total st.seen ≤ st.used := by
 have := runs_total ok.rises ok.fits st.acts.length (Nat.le_refl _)
 rw [List.take_length] at this
 exact this
theorem seen_few {st : Dk} (ok : st.Ok) : st.seen.length ≤ 4096 := by
 have := ok.few st.acts.length (Nat.le_refl _)
 rw [List.take_length] at this
 exact this
theorem seen_get {st : Dk} (ok : st.Ok) (k : List UInt8) : ((get st.seen k).getD []).length ≤ st.used := by
 have := total_get (runs_rises ok.rises st.acts) k
 have := seen_total ok
 unfold Dk.seen at *
 omega
set_option maxRecDepth 200000 in
set_option maxHeartbeats 4000000 in
theorem write_any {w : World} {S C : Nat → Prop} {g : Nat} {st : Dk} (h : DiskIs w S C g st) {s : ByteArray} (hs : s.size ≤ maxLen) {at_ : Int} (ha : at_ ≤ 9223372036854775807) (ha' : -9223372036854775808 ≤ at_) {v : Value} {b : List UInt8} (hb : By w v b) (hbl : b.length ≤ 140737488355328) (hmany : st.acts.length < 1000000)
  (hk : st.keep ≤ 9223372036854775807) (hk' : -9223372036854775808 ≤ st.keep) (ht : st.tear ≤ 9223372036854775807) (ht' : -9223372036854775808 ≤ st.tear) :
  Calls Tryz.prog 29 #[.pointer (some ⟨g, 0, none⟩), .string s, .int .i64 at_, v] w fun e w' => e = .returned (.int .i64 ((st.write s.data.toList at_ b).1 : Nat)) ∧ DPost w S C g (st.write s.data.toList at_ b).2 w' := by
 obtain ⟨p, n, c, rfl⟩ := hb.sl
 obtain ⟨W, hW⟩ : ∃ W, W = (w.alloc (.cells #[.string s] 9)).alloc (.cells #[.int .i64 at_] 3) := ⟨_, rfl⟩
 have hcW : Chg w W (fun _ => False) := by rw [hW]; exact Chg.of_below (balloc (balloc (Below.refl _ _) _) _) _
 have hsW : W.heap.size = w.heap.size + 2 := by rw [hW, size_alloc', size_alloc']
 have hD := h.chg hcW (fun _ _ h => h) (fun _ _ h => h)
 obtain ⟨A, L, bs, bl, a, xs, Vs, Vl, Ds, Dl, hh, hA, hL, hacts, sA, sL, sa⟩ := hD.parts
 have c2 := hh.c2
 have c3 := hh.c3
 have c4 := hh.c4
 have cs : W.cell? ⟨w.heap.size, 0, none⟩ = some (.string s) := by rw [hW]; simp
 have ca : W.cell? ⟨w.heap.size + 1, 0, none⟩ = some (.int .i64 at_) := by rw [hW]; simp
 have hrdy := ready_any c2 c3 s
 have HRDY := hide hrdy
 have HC3 := hide c3
 clear hrdy c3
 by_cases hr : rdy st.down s.data.toList = 0
 ·have hdn : st.down = false := by
   unfold rdy at hr
   by_cases h : st.down = true
   ·rw [h] at hr; simp at hr
   ·simpa using h
  rcases hg : get st.seen s.data.toList with _ | o
  ·have hlook := fun q => ((hA.look hs).2 hg q).1
   have hlen := fun q => (files_drewN hA q).map.len Tryz.underlying91 3
   simp only [hA.size] at hlen
   obtain ⟨sl, hsl⟩ : ∃ sl, sl = st.seen.length := ⟨_, rfl⟩
   rw [← hsl] at hlen
   have hfew := seen_few h.ok
   rw [← hsl] at hfew
   have HSAME := hide (fun V (hc : Chg W V (fun _ => False)) => DPost.same h (hcW.trans hc fun _ h => .inl h))
   by_cases h1 : at_ = 0
   ·have g1 : (at_ != 0) = false := ine_false h1
    have h2 : 0 ≤ at_ := by omega
    have h3 : ¬ (0 : Int) < at_ := by omega
    have hbn := hb.len
    have hroom := h.ok.room
    have hmost := h.ok.most
    have hc0 := hh.c0
    have hc1 := hh.c1
    have hsub : IntKind.i64.wrap ((st.room : Int) - (st.used : Int)) = (st.room : Int) - (st.used : Int) := by rw [IntKind.wrap_i64]; omega
    by_cases h6 : 4096 ≤ sl
    ·have e1 : st.write s.data.toList at_ b = (7, st) := by
      unfold Dk.write
      rw [if_neg (by omega), hg]
      simp only
      rw [if_neg (by omega), if_pos (by omega)]
     have E1 := hide e1
     have h7 : ¬ (sl : Int) < 4096 := by omega
     have HSL := hide hsl
     clear e1 h1 h6 hsl
     go_enter Tryz.func29, Tryz.ntmps29
     go_wp2_with fail
     rw [← hW]
     refine HRDY.out.mono ?_
     rintro e W1 ⟨rfl, rfl⟩
     rw [hr]
     clear hW c2
     go_wp2_with fail
     go_quiet (fail)
     go_wp2
     go_ret
     rw [E1.out]
     exact ⟨rfl, HSAME.out _ (by first | exact (Chg.refl _ _).drewN _ | exact ((Chg.refl _ _).drewN _).drewN _)⟩
    ·have h7 : (sl : Int) < 4096 := by omega
     have HSL := hide (And.intro hsl h7)
     have H1 := hide h1
     by_cases h4 : st.room < st.used + b.length
     ·have e1 : st.write s.data.toList at_ b = (7, st) := by
       unfold Dk.write
       rw [if_neg (by omega), hg]
       simp only
       rw [if_neg (by omega), if_neg (by omega), if_pos h4]
      have E1 := hide e1
      have h5 : (st.room : Int) - (st.used : Int) < (n : Int) := by omega
      clear e1 h1 h4 h6 hsl
      go_enter Tryz.func29, Tryz.ntmps29
      go_wp2_with fail
      rw [← hW]
      refine HRDY.out.mono ?_
      rintro e W1 ⟨rfl, rfl⟩
      rw [hr]
      clear hW c2
      go_wp2_with fail
      go_quiet (fail)
      go_wp2_with fail
      go_quiet (fail)
      go_wp2
      go_ret
      rw [E1.out]
      exact ⟨rfl, HSAME.out _ (by first | exact (Chg.refl _ _).drewN _ | exact ((Chg.refl _ _).drewN _).drewN _)⟩
     have e1 : st.write s.data.toList at_ b = st.perf (.put s.data.toList at_.toNat b) := by
      unfold Dk.write
      rw [if_neg (by omega), hg]
      simp only
      rw [if_neg (by omega), if_neg (by omega), if_neg h4, h1]
      rfl
     have E1 := hide e1
     have h5 : ¬ (st.room : Int) - (st.used : Int) < (n : Int) := by omega
     have H4 := hide h4
     have HBN := hide hbn.1
     have hbc := hbn.2
     clear e1 h1 h4 h6 hsl hbn
     go_enter Tryz.func29, Tryz.ntmps29
     go_wp2_with fail
     rw [← hW]
     refine HRDY.out.mono ?_
     rintro e W1 ⟨rfl, rfl⟩
     rw [hr]
     have HW := hide hW
     clear hW c2
     go_wp2_with fail
     go_quiet (fail)
     go_wp2_with fail
     go_quiet (fail)
     go_wp2_with fail
     generalize hX : World.drewN _ _ = X
     have hcX : Chg W X (fun _ => False) := hX ▸ (by first | exact (Chg.refl W _).drewN _ | exact ((Chg.refl W _).drewN _).drewN _)
     have hbX := hb.chg (hcW.trans hcX fun _ h => .inl h) (.inr fun _ _ h => h)
     have csX := hcX.cell cs (fun h => h)
     have caX := hcX.cell ca (fun h => h)
     have hsX : X.heap.size = w.heap.size + 2 := by rw [← hX]; exact hsW
     refine (cloneRow_any hbX hbl).mono ?_
     rintro e w2 ⟨v2, rfl, hr2, hb2⟩
     obtain ⟨q2, n2, c2', rfl⟩ : ∃ q n c, v2 = .slice q n c := (by_row (row_mono hr2)).sl
     have hc2 : Chg X w2 (fun _ => False) := Chg.of_below hb2 _
     have cs2 := hc2.cell csX (fun h => h)
     have ca2 := hc2.cell caX (fun h => h)
     have hn2 := (by_row (row_mono hr2)).len.1
     have HC2 := hide (hcW.trans (hcX.trans hc2 (S := fun _ => False) fun _ h => .inl h) (S := fun _ => False) fun _ h => .inl h)
     have HR2 := hide hr2
     have HS2 := hide (And.intro hsX hc2.size)
     clear hr2 hb2 hc2 csX caX hbX hsX hX
     obtain ⟨N2, hN2⟩ : ∃ N2, N2 = b.length := ⟨_, rfl⟩
     obtain rfl : n2 = N2 := by omega
     have HN2 := hide hN2
     have hN2' : (n2 : Int) ≤ 140737488355328 := by omega
     clear hn2 hN2
     go_wp2_with fail
     obtain ⟨C2, hD2, hd2, hback⟩ := put_boxed h HC2.out hs h2 cs2 ca2 HR2.out (by have := HS2.out; omega) (by have := HS2.out; omega)
     have hper := perform_any hD2 hd2 ⟨by show at_.toNat ≤ _; have := H1.out; omega, by rw [hg]; show 0 + b.length ≤ _; have := H4.out; omega⟩ (by
      show (put st.seen _ _).length ≤ 4096
      rw [length_put (F := st.seen) (runs_rises h.ok.rises st.acts), hg]
      show st.seen.length + 1 ≤ 4096
      have := HSL.out
      omega) (by show st.used + b.length ≤ st.room; have := H4.out; omega) hdn hmany hk hk' ht ht'
     rw [show (Deed.put s.data.toList at_.toNat b).size = n2 from HN2.out.symm] at hper
     refine hper.mono ?_
     rintro e w4 ⟨rfl, hp⟩
     have HP := hide (hback _ _ hp)
     clear hper hp hD2 hd2 hback
     go_wp2
     go_ret
     rw [E1.out]
     exact ⟨rfl, HP.out⟩
   ·have g1 : (at_ != 0) = true := ine_true h1
    have e1 : st.write s.data.toList at_ b = (21, st) := by
     unfold Dk.write
     rw [if_neg (by omega), hg]
     simp only
     rw [if_pos h1]
    have E1 := hide e1
    clear e1 h1
    go_enter Tryz.func29, Tryz.ntmps29
    go_wp2_with fail
    rw [← hW]
    refine HRDY.out.mono ?_
    rintro e W1 ⟨rfl, rfl⟩
    rw [hr]
    clear hW c2
    go_wp2_with fail
    go_quiet (fail)
    go_wp2
    go_ret
    rw [E1.out]
    exact ⟨rfl, HSAME.out _ (by first | exact (Chg.refl _ _).drewN _ | exact ((Chg.refl _ _).drewN _).drewN _)⟩
  ·have hlook := fun q => ((hA.look hs).1 o hg q).1
   have hrow := (hA.vals _ _ hg).2
   obtain ⟨q0, n0, c0, hv⟩ : ∃ q n c, Vs s.data.toList = .slice q n c := (by_row hrow).sl
   rw [hv] at hlook hrow
   have hn0 := (by_row hrow).len
   have hm0 := (by_row hrow).lenMax
   have HN0 := hide hn0.1
   obtain ⟨ol, hol⟩ : ∃ ol, ol = o.length := ⟨_, rfl⟩
   obtain rfl : n0 = ol := by omega
   have HSAME := hide (fun V (hc : Chg W V (fun _ => False)) => DPost.same h (hcW.trans hc fun _ h => .inl h))
   by_cases h1 : at_ < 0 ∨ (n0 : Int) < at_
   ·have e1 : st.write s.data.toList at_ b = (1, st) := by
     unfold Dk.write
     rw [if_neg (by omega), hg]
     simp only
     rw [if_pos (by omega)]
    have E1 := hide e1
    clear e1
    rcases h1 with h1 | h1
    all_goals
     go_enter Tryz.func29, Tryz.ntmps29
     go_wp2_with fail
     rw [← hW]
     refine HRDY.out.mono ?_
     rintro e W1 ⟨rfl, rfl⟩
     rw [hr]
     clear hW c2
     go_wp2_with fail
     go_quiet (fail)
     go_wp2
     go_ret
     rw [E1.out]
     exact ⟨rfl, HSAME.out _ (by first | exact (Chg.refl _ _).drewN _ | exact ((Chg.refl _ _).drewN _).drewN _)⟩
   ·have h2 : 0 ≤ at_ := by omega
    have h3 : at_ ≤ (n0 : Int) := by omega
    clear h1
    have hbn := hb.len
    have hroom := h.ok.room
    have hmost := h.ok.most
    have hc0 := hh.c0
    have hc1 := hh.c1
    have hsub : IntKind.i64.wrap ((st.room : Int) - (st.used : Int)) = (st.room : Int) - (st.used : Int) := by rw [IntKind.wrap_i64]; omega
    by_cases h4 : st.room < st.used + b.length
    ·have e1 : st.write s.data.toList at_ b = (7, st) := by
      unfold Dk.write
      rw [if_neg (by omega), hg]
      simp only
      rw [if_neg (by omega), if_pos h4]
     have E1 := hide e1
     have h5 : (st.room : Int) - (st.used : Int) < (n : Int) := by omega
     clear e1 h4
     go_enter Tryz.func29, Tryz.ntmps29
     go_wp2_with fail
     rw [← hW]
     refine HRDY.out.mono ?_
     rintro e W1 ⟨rfl, rfl⟩
     rw [hr]
     clear hW c2
     go_wp2_with fail
     go_quiet (fail)
     go_wp2_with fail
     go_quiet (fail)
     go_wp2
     go_ret
     rw [E1.out]
     exact ⟨rfl, HSAME.out _ (((Chg.refl _ _).drewN _).drewN _)⟩
    ·have e1 : st.write s.data.toList at_ b = st.perf (.put s.data.toList at_.toNat b) := by
      unfold Dk.write
      rw [if_neg (by omega), hg]
      simp only
      rw [if_neg (by omega), if_neg h4]
     have E1 := hide e1
     have h5 : ¬ (st.room : Int) - (st.used : Int) < (n : Int) := by omega
     have H4 := hide h4
     have HBN := hide hbn.1
     have hbc := hbn.2
     clear e1 h4 hbn
     go_enter Tryz.func29, Tryz.ntmps29
     go_wp2_with fail
     rw [← hW]
     refine HRDY.out.mono ?_
     rintro e W1 ⟨rfl, rfl⟩
     rw [hr]
     have HW := hide hW
     clear hW c2
     go_wp2_with fail
     go_quiet (fail)
     go_wp2_with fail
     go_quiet (fail)
     go_wp2_with fail
     generalize hX : World.drewN _ _ = X
     have hcX : Chg W X (fun _ => False) := hX ▸ (by first | exact (Chg.refl W _).drewN _ | exact ((Chg.refl W _).drewN _).drewN _)
     have hbX := hb.chg (hcW.trans hcX fun _ h => .inl h) (.inr fun _ _ h => h)
     have csX := hcX.cell cs (fun h => h)
     have caX := hcX.cell ca (fun h => h)
     have hsX : X.heap.size = w.heap.size + 2 := by rw [← hX]; exact hsW
     refine (cloneRow_any hbX hbl).mono ?_
     rintro e w2 ⟨v2, rfl, hr2, hb2⟩
     obtain ⟨q2, n2, c2', rfl⟩ : ∃ q n c, v2 = .slice q n c := (by_row (row_mono hr2)).sl
     have hc2 : Chg X w2 (fun _ => False) := Chg.of_below hb2 _
     have cs2 := hc2.cell csX (fun h => h)
     have ca2 := hc2.cell caX (fun h => h)
     have hn2 := (by_row (row_mono hr2)).len.1
     have HC2 := hide (hcW.trans (hcX.trans hc2 (S := fun _ => False) fun _ h => .inl h) (S := fun _ => False) fun _ h => .inl h)
     have HR2 := hide hr2
     have HS2 := hide (And.intro hsX hc2.size)
     clear hr2 hb2 hc2 csX caX hbX hsX hX
     obtain ⟨N2, hN2⟩ : ∃ N2, N2 = b.length := ⟨_, rfl⟩
     obtain rfl : n2 = N2 := by omega
     have HN2 := hide hN2
     have hN2' : (n2 : Int) ≤ 140737488355328 := by omega
     clear hn2 hN2
     go_wp2_with fail
     obtain ⟨C2, hD2, hd2, hback⟩ := put_boxed h HC2.out hs h2 cs2 ca2 HR2.out (by have := HS2.out; omega) (by have := HS2.out; omega)
     have hg2 := seen_get h.ok s.data.toList
     rw [hg] at hg2
     have hper := perform_any hD2 hd2 ⟨by rw [hg]; show at_.toNat ≤ o.length; have := HN0.out; omega, by rw [hg]; show o.length + b.length ≤ _; simp at hg2; have := H4.out; omega⟩ (by
      show (put st.seen _ _).length ≤ 4096
      rw [length_put (F := st.seen) (runs_rises h.ok.rises st.acts), hg]
      exact seen_few h.ok) (by show st.used + b.length ≤ st.room; have := H4.out; omega) hdn hmany hk hk' ht ht'
     rw [show (Deed.put s.data.toList at_.toNat b).size = n2 from HN2.out.symm] at hper
     refine hper.mono ?_
     rintro e w4 ⟨rfl, hp⟩
     have HP := hide (hback _ _ hp)
     clear hper hp hD2 hd2 hback hg2
     go_wp2
     go_ret
     rw [E1.out]
     exact ⟨rfl, HP.out⟩
 ·go_enter Tryz.func29, Tryz.ntmps29
  go_wp2_with fail
  rw [← hW]
  have e1 : st.write s.data.toList at_ b = (rdy st.down s.data.toList, st) := by unfold Dk.write; rw [if_pos hr]
  have E1 := hide e1
  have HSAME := hide (DPost.same h hcW)
  have g0 : (((rdy st.down s.data.toList : Nat) : Int) != 0) = true := ine_true (by omega)
  refine HRDY.out.mono ?_
  rintro e W1 ⟨rfl, rfl⟩
  clear hW c2 e1
  go_wp2
  go_ret
  rw [E1.out]
  exact ⟨rfl, HSAME.out⟩
end Go.Proofs.YtgbdjcekpdfpjaaGreatDoor
