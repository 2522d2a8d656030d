/- A store's bytes. -/
import Derived.Test.YtimjplkehlgelaaGreatSoSeats
import Derived.Test.YtimjplkehlgelaaGreatSp1
namespace Go.Proofs.YtimjplkehlgelaaGreat
set_option linter.unusedVariables false
set_option linter.unusedSimpArgs false
open Go.RowKit

theorem str_size (l : List UInt8) : (str l).size = l.length := by rw [str_eq]; rfl
theorem str_data (l : List UInt8) : (str l).data.toList = l := by rw [str_eq]
theorem ownsRow_chgN {w w' : World} {B n z : Nat} {e : TypeId} {v : Value} {xs : List Value} {S : Nat → Prop} (h : w.ownsRow B e z v n xs) (hc : Chg w w' S) (hS : ∀ k, v.ownBlock = some k → ¬ S k) : w'.ownsRow B e z v n xs := by
  rcases h with ⟨h0, ⟨rfl, h1⟩ | ⟨g, cap, cur, rfl, hB, hh, r⟩⟩
  · exact ⟨h0, .inl ⟨rfl, h1⟩⟩
  · exact ⟨h0, .inr ⟨g, cap, cur, rfl, hB, (hc.block g (Array.getElem?_eq_some_iff.1 hh).1 (hS g rfl)).trans hh, r⟩⟩
theorem ownsRow_kind {w : World} {B n z : Nat} {e : TypeId} {v : Value} {xs : List Value} (h : w.ownsRow B e z v n xs) {k : Nat} (hk : v.ownBlock = some k) : ∃ cur, w.heap[k]? = some (.cells cur e (0, 0)) := by
  rcases h with ⟨h0, ⟨rfl, h1⟩ | ⟨g, cap, cur, rfl, hB, hh, r⟩⟩
  · cases hk
  · injection hk with hk
    subst hk
    exact ⟨cur, hh⟩
/-- Rows of unlike kinds lie in unlike blocks. -/
theorem kinds_apart {w : World} {B n z B' n' z' : Nat} {e e' : TypeId} {v v' : Value} {xs xs' : List Value} (h : w.ownsRow B e z v n xs) (h' : w.ownsRow B' e' z' v' n' xs') (hne : e ≠ e') {k : Nat} (hk : v.ownBlock = some k) : v'.ownBlock ≠ some k := fun hk' => by
  obtain ⟨c, h1⟩ := ownsRow_kind h hk
  obtain ⟨c', h2⟩ := ownsRow_kind h' hk'
  rw [h1] at h2
  injection h2 with h2
  injection h2 with _ h2
  exact hne h2
theorem run_gather2 {B : Nat} {w : World} {v : Value} {xs : List (List UInt8)} (h : Gath B w v xs) {q : Option Addr} {m c : Nat} {x : List UInt8} (hx : By w (.slice q m c) x) (hap : Apart w v (.slice q m c) x) (hB : B ≤ w.heap.size) (hs : xs.length ≤ 1000000) :
    ∃ v' w', (Builtin.append_ #[91, 91] 91 #[v, .slice (some ⟨w.heap.size, 0, none⟩) 1 1]).run Tryz.prog (w.alloc (.cells #[.slice q m c] 47)) = .ok v' w' ∧ Gath B w' v' (xs ++ [x]) ∧ Below B w w' ∧ Chg w w' fun k => v.ownBlock = some k := by
  obtain ⟨v', w', hr, h1, h2⟩ := run_gather h hx hap hB hs
  obtain ⟨us, hl, ho, hu⟩ := h
  obtain ⟨i0, hi0, hz0, hz1, hz2⟩ := info_parts Tryz.info47
  have ho' := ho.alloc (.cells #[.slice q m c] 47)
  obtain ⟨v2, w2, hr2, _, hg, _, _⟩ := run_append_own_at (P := Tryz.prog) (w.alloc (.cells #[.slice q m c] 47)) B 91 91 47 i0 (.slice none 0 0) 1 24 Tryz.underlying91 hi0 hz0 hz1 hz2 rfl (by decide) v xs.length us ho' ⟨w.heap.size, 0, none⟩ 1 1 [.slice q m c] rfl
    (cell_new1 _ _ _) (fun u hu => by simp at hu; subst hu; rfl) (by simp only [maxLen]; omega) (by omega) (by simp; omega)
  rw [hr] at hr2
  injection hr2 with e1 e2
  subst e1 e2
  exact ⟨v', w', hr, h1, h2, ((Chg.refl w _).alloc _).trans (Chg.of_grown hg (fun k => v.ownBlock = some k) fun k e => .inl e) fun k hk => .inl hk⟩
theorem wpList_gather2 {w : World} {ops : Array Oper} {rest : List Oper} {o : Oper} {a : Act} {Q : Exit → Act → World → Prop} (hgd : o.guard = none) (s t : Operand)
    (ho : o.op = .call { callee := .builtin .append, args := #[s, t], argTypes := #[91, 91] }) (hty : o.type = 91) {B : Nat} {v : Value} {xs : List (List UInt8)} {q : Option Addr} {m c : Nat} {x : List UInt8}
    (hs : a.eval s = v) (ht : a.eval t = .slice (some ⟨w.heap.size, 0, none⟩) 1 1) (h : Gath B w v xs) (hx : By w (.slice q m c) x) (hap : Apart w v (.slice q m c) x) (hB : B ≤ w.heap.size) (hn : xs.length ≤ 1000000)
    (hK : ∀ v' w', Gath B w' v' (xs ++ [x]) → Below B w w' → Chg w w' (fun k => v.ownBlock = some k) → wpList Tryz.prog ops Q rest (a.put o.dst v') w') : wpList Tryz.prog ops Q (o :: rest) a (w.alloc (.cells #[.slice q m c] 47)) := by
  obtain ⟨v', w', hr, h1, h2, h3⟩ := run_gather2 h hx hap hB hn
  exact Lib.wpList_append_run_sl _ hgd s t 91 ho v _ hs ht (by rw [hty]; exact hr) (hK v' w' h1 h2 h3)
/-- Numbers in a row stay where slices are gathered. -/
theorem row_gather {w w' : World} {B B' n : Nat} {u v : Value} {cs : List Value} {xs : List (List UInt8)} (h : w.ownsRow B 3 1 u n cs) (hG : Gath B' w v xs) (hc : Chg w w' fun k => v.ownBlock = some k) : w'.ownsRow B 3 1 u n cs := by
  obtain ⟨us, hl, ho, _⟩ := hG
  exact ownsRow_chgN h hc fun k hk => kinds_apart h ho (by decide) hk
theorem ints_row {B : Nat} {w : World} {v : Value} {n : Nat} {l : List Int} (h : w.ownsRow B 3 1 v n (l.map (Value.int .i64))) : ∃ p c, v = .slice p n c ∧ l.length = n ∧ n ≤ maxLen ∧ (0 < n → ∃ g, p = some ⟨g, 0, none⟩ ∧ g < w.heap.size ∧ ∀ (i : Nat) x, l[i]? = some x → w.cell? ⟨g, i, none⟩ = some (.int .i64 x)) := by
  have hn : l.length = n := by have := h.1; simpa using this
  rcases h.2 with ⟨rfl, rfl⟩ | ⟨g, cap, cur, rfl, hB, hg, hl, hm, hs, ht⟩
  · exact ⟨none, 0, rfl, hn, by simp [maxLen], fun h => by omega⟩
  · refine ⟨_, cap, rfl, hn, by omega, fun _ => ⟨g, rfl, (Array.getElem?_eq_some_iff.1 hg).1, fun i x hx => ?_⟩⟩
    have := h.cells (g := g) rfl i (Value.int .i64 x) (by simp [hx])
    rwa [add_lit0, Nat.zero_add] at this
theorem sortS_mem {L : List Sp} {x : Sp} : x ∈ sortS L ↔ x ∈ L := (sortS_perm L).mem_iff
theorem enc_len {t : Int} {L : List Sp} (h : FoOk t L) : (encL (sortS L)).length ≤ 7000 := by
  have hall : (sortS L).all Sp.ok = true := List.all_eq_true.2 fun x hx => (h.ok x (sortS_mem.1 hx)).1
  have h1 := lens_puts hall
  have h2 := (sortS_perm L).length_eq
  have h3 := h.len
  have h4 := digits_length (sortS L).length (by omega)
  unfold encL
  rw [List.length_append, List.length_flatten]
  have h5 : (((sortS L).map Sp.bytes).map List.length).sum ≤ 100 * (sortS L).length := h1
  omega
theorem putB_fo {t : Int} {L : List Sp} (h : FoOk t L) : putB (sortS L) = (encL (sortS L), 0) := by
  have hall : (sortS L).all Sp.ok = true := List.all_eq_true.2 fun x hx => (h.ok x (sortS_mem.1 hx)).1
  unfold putB
  rw [if_pos hall]
theorem bytesS_len {y : Pl} (h : FoOk y.1 y.2) : (bytesS y).length ≤ 7010 := by
  have h1 := enc_len h
  have h2 := digits_length (encL (sortS y.2)).length (by omega)
  unfold bytesS
  rw [List.length_append]
  omega
theorem lens_imgs : ∀ {S : List Pl}, (∀ y ∈ S, FoOk y.1 y.2) → Lib.lens (S.map bytesS) ≤ 7010 * S.length
  | [], _ => by simp [Lib.lens]
  | y :: r, h => by
    have h1 := bytesS_len (h y (List.mem_cons_self ..))
    have h2 := lens_imgs (S := r) fun z hz => h z (List.mem_cons_of_mem _ hz)
    simp only [Lib.lens, List.map_cons, List.sum_cons, List.length_cons] at h2 ⊢
    omega
theorem imgS_flat (S : List Pl) : imgS S = (digits S.length :: S.map bytesS).flatten := by
  unfold imgS
  rw [List.flatten_cons, List.flatMap_def]
/-- What Image says. -/
def ImgPost (w : World) (b : List UInt8) (e : Ending) (w' : World) : Prop := ∃ v, e = .returned v ∧ Own w.heap.size w' v b ∧ Below w.heap.size w w'
set_option maxRecDepth 200000 in
set_option maxHeartbeats 4000000 in
theorem simage_any {w : World} {gs bm : Nat} {R : List Tr} (h : SoIs w gs bm R) : Calls Tryz.prog 24 #[.pointer (some ⟨gs, 0, none⟩)] w (ImgPost w (imgS (R.map Tr.pl))) := by
  have HM := hide (smade_any h.c0)
  have HH := hide h
  have hL8 := h.len
  clear h
  obtain ⟨n, hn⟩ : ∃ n, R.length = n := ⟨_, rfl⟩
  rw [hn] at hL8
  have HN := hide hn
  go_enter Tryz.func24, Tryz.ntmps24
  go_wp2_with fail
  refine HM.out.mono ?_
  rintro e X ⟨rfl, q, hq⟩
  have hcX : Below w.heap.size w X := by rw [hq]; exact bdrew w q
  clear hq
  have hX := HH.out.below hcX
  have c0 := hX.c0
  obtain ⟨D, hD⟩ := hX.map
  have hlen := hD.map.len Tryz.underlying68 3
  rw [hD.rd.size, hn] at hlen
  have HX := hide hX
  have HCX := hide hcX
  clear hX hD hcX hn
  go_wp2_with fail
  refine (wireNumber_any (By.nil X) (by simp) n n (by omega) (by unfold lim; omega)).mono ?_
  rintro e1 w1 ⟨v1, rfl, ho, hb⟩
  rw [List.nil_append] at ho
  obtain ⟨q1, m1, c1, rfl⟩ := ho.by_.sl
  have hG := Gath.lit (B := X.heap.size) hb.size ho
  have HG := hide hG
  have HB := hide (hb.alloc hb.size (.cells #[.slice q1 m1 c1] 47))
  clear hG hb ho
  go_wp2_with fail
  refine (straces_any (HX.out.below HB.out)).mono ?_
  rintro e2 w2 ⟨v2, rfl, hrow, hb2⟩
  rw [HN.out] at hrow
  obtain ⟨p2, c2, rfl, hl2, hmx, hcl⟩ := ints_row hrow
  have HG2 := hide (HG.out.below hb2)
  have HB2 := hide (HB.out.trans (hb2.mono HB.out.size))
  have HROW := hide (row_mono (B' := w1.heap.size) hrow (by simp))
  have hmx' : (n : Int) ≤ 9223372036854775807 := by omega
  clear hrow hcl hb2 hmx hl2 HG HB
  go_wp2_with fail
  go_loopw [3, 5, 6, 7, 21] (fun v _ _ _ i wr => ∃ k : Nat, k ≤ n ∧ i = .int .i64 k ∧ Hid (Gath X.heap.size wr v (digits n :: (R.take k).map fun x => bytesS x.pl) ∧ Below X.heap.size X wr ∧ wr.ownsRow w1.heap.size 3 1 (.slice p2 n c2) n ((R.map (·.t)).map (Value.int .i64)))) (fun _ _ _ _ i _ => n - (intOf i).toNat)
  case atStart => exact ⟨0, by omega, rfl, hide ⟨HG2.out, HB2.out, HROW.out⟩⟩
  case round =>
    obtain ⟨k, hk, rfl, HR⟩ := hrel
    by_cases hlt : k < n
    · obtain ⟨y, hy⟩ : ∃ y, R[k]? = some y := ⟨_, List.getElem?_eq_getElem (by have := HN.out; omega)⟩
      obtain ⟨p2', c2', he2, _, _, hcl⟩ := ints_row HR.out.2.2
      injection he2 with he2 _ he3
      subst he2 he3
      obtain ⟨gk, rfl, hgk, hc⟩ := hcl (by omega)
      have hckr : wr.cell? ⟨gk, k, none⟩ = some (.int .i64 y.t) := hc k y.t (by simp [hy])
      have hbX : Below X.heap.size X wr := HR.out.2.1
      have hTr := HX.out.below hbX
      have c0r := hTr.c0
      obtain ⟨Dr, hDr⟩ := hTr.map
      have hym : y ∈ R := List.mem_of_getElem? hy
      have hyo := HX.out.ok.ok y.pl (List.mem_map.2 ⟨y, hym, rfl⟩)
      have hl : (Instr.lookup 68 (.map (some bm)) (.int .i64 y.t) false).run Tryz.prog wr = .ok (ptrV (fndK kR R y.t)) wr := hDr.look (k := y.t) (WalkArith.wf_i64 (by have h1 : 1 ≤ y.t := hyo.2.2.1; have h2 : y.t ≤ 1099511627776 := hyo.2.2.2; omega)) 0
      rw [show fndK kR R y.t = some y from fndK_of HX.out.rises.ids hym] at hl
      have HF := hide (hTr.fo y hym)
      have HTK : Hid (R.take (k + 1) = R.take k ++ [y]) := hide (by rw [List.take_add_one, hy]; rfl)
      have HFO : Hid (FoOk y.t y.L) := hide hyo.1
      have HBX := hide hbX
      clear hDr hTr hym hyo hc hcl hy hbX
      obtain ⟨t, g, b, L⟩ := y
      dsimp only [ptrV, Tr.v, Tr.pl] at *
      go_wp2_with fail
      refine (spans_any HF.out).mono ?_
      rintro e3 w3 ⟨v3, rfl, ho3, hb3⟩
      have hl64 : (sortS L).length ≤ 64 := by rw [(sortS_perm L).length_eq]; exact HFO.out.len
      have HPT := hide (spanPut_any ho3.sps (by omega) (fun x hx => sp_name (HFO.out.ok x (sortS_mem.1 hx)).1) (putB_fo HFO.out))
      have HB3 := hide hb3
      clear ho3 hb3 hl64
      go_wp2_with fail
      refine HPT.out.mono ?_
      rintro e4 w4 ⟨v4, rfl, ho4, hb4⟩
      obtain ⟨q4, m4, c4, rfl⟩ := ho4.by_.sl
      have hcv := conv_at ho4.by_
      have HB4 : Hid (Below wr.heap.size wr w4) := hide (HB3.out.trans (hb4.mono HB3.out.size))
      have hel := enc_len HFO.out
      obtain ⟨eb, heb⟩ : ∃ eb, encL (sortS L) = eb := ⟨_, rfl⟩
      have HBS : Hid (bytesS (t, L) = digits eb.length ++ eb) := hide (by unfold bytesS; rw [heb])
      rw [heb] at hcv hel
      have HWT := hide (wireText_any (By.nil w4) (by simp) (str eb) (by have := str_size eb; omega))
      have HEL := hide hel
      clear ho4 hb4 HPT heb hel
      go_wp2_with fail
      refine HWT.out.mono ?_
      rintro e5 w5 ⟨v5, rfl, ho5, hb5⟩
      obtain ⟨q5, m5, c5, rfl⟩ := ho5.by_.sl
      have HB5 : Hid (Below wr.heap.size wr w5) := hide (HB4.out.trans (hb5.mono HB4.out.size))
      have hap := Apart.of_own HR.out.1 (ho5.mono (B' := wr.heap.size) HB4.out.size)
      have HAP := hide hap
      have HG3 := hide (HR.out.1.below HB5.out)
      have HP3 := hide ho5.by_
      have hbs3 : X.heap.size ≤ w5.heap.size := Nat.le_trans HBX.out.size HB5.out.size
      have HLK : Hid ((digits n :: (R.take k).map fun x => bytesS (x.t, x.L)).length ≤ 1000000) := hide (by
        simp only [List.length_cons, List.length_map, List.length_take]
        omega)
      have HNX : Hid (digits n :: (R.take (k + 1)).map (fun x => bytesS (x.t, x.L)) = (digits n :: (R.take k).map fun x => bytesS (x.t, x.L)) ++ [[] ++ digits (str eb).size ++ (str eb).data.toList]) := hide (by
        rw [HTK.out, str_size, str_data, List.map_append, List.cons_append, List.map_singleton]
        dsimp only
        rw [HBS.out]
        rfl)
      clear hap ho5 hb5 HWT hcv hl
      go_wp2_with (at_builtin; go_must (refine wpList_gather2 (v := u3) rfl _ _ rfl rfl rfl rfl HG3.out HP3.out HAP.out hbs3 HLK.out ?_); intro v6 w6 hg6 hb6 hc6)
      go_roundw
      case rel => exact ⟨k + 1, by omega, by go_num, hide ⟨by rw [HNX.out]; exact hg6, (HBX.out.trans (HB5.out.mono HBX.out.size)).trans hb6, row_gather (row_below HR.out.2.2 HB5.out) HG3.out hc6⟩⟩
      case measure => simp [intOf]; omega
    · obtain rfl : k = n := by omega
      have htk : R.take k = R := List.take_of_length_le (by have := HN.out; omega)
      have hg := HR.out.1
      rw [htk] at hg
      have hls : Lib.lens (digits k :: R.map fun x => bytesS x.pl) ≤ 140737488355328 := by
        have h1 := lens_imgs (S := R.map Tr.pl) fun y hy => (HX.out.ok.ok y hy).1
        have h2 := digits_length k (by omega)
        rw [List.map_map] at h1
        simp only [Lib.lens, List.map_cons, List.sum_cons, List.length_map] at h1 ⊢
        have := HN.out
        have h3 : (List.map (fun x => x.length) (List.map (bytesS ∘ Tr.pl) R)).sum = (List.map (fun x => x.length) (List.map (fun x => bytesS x.pl) R)).sum := rfl
        omega
      have HJ := hide (join_any hg.bss hls (by simp; have := HN.out; omega))
      have HFL : Hid ((digits k :: R.map fun x => bytesS x.pl).flatten = imgS (R.map Tr.pl)) := hide (by rw [imgS_flat, List.length_map, HN.out, List.map_map]; rfl)
      have HBX := hide HR.out.2.1
      clear htk hg hls
      go_wp2_with fail
      refine HJ.out.mono ?_
      rintro e2 w9 ⟨v9, rfl, ho9, hb9⟩
      have HO := hide (ho9.mono (B' := w.heap.size) (Nat.le_trans HCX.out.size HBX.out.size))
      have HB9 := hide (HCX.out.trans ((HBX.out.trans (hb9.mono HBX.out.size)).mono HCX.out.size))
      clear ho9 hb9
      go_wp2
      go_ret
      exact ⟨_, rfl, by rw [← HFL.out]; exact HO.out, HB9.out⟩
end Go.Proofs.YtimjplkehlgelaaGreat
