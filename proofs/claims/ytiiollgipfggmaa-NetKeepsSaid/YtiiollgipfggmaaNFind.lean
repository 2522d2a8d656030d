/- Where a message is in a bag; the numbers of all. -/
import Derived.Test.YtiiollgipfggmaaNBag
import Derived.Shelf.SlicesQ.IndexFunc
namespace Go.Proofs.Ytiiollgipfggmaa
set_option linter.unusedVariables false
set_option linter.unusedSimpArgs false
open Go.RowKit

theorem wpList_pushN {w : World} {ops : Array Oper} {rest : List Oper} {o : Oper} {a : Act} {Q : Exit → Act → World → Prop} (hgd : o.guard = none) (s t : Operand)
    (ho : o.op = .call { callee := .builtin .append, args := #[s, t], argTypes := #[23, 23] }) (hty : o.type = 23) {B : Nat} {v : Value} {l : List Int} (x : Int) {H : Nat}
    (hs : a.eval s = v) (ht : a.eval t = .slice (some ⟨H, 0, none⟩) 1 1) (hH : H = w.heap.size) (h : OwnN B w v l) (hx : fits x) (hB : B ≤ w.heap.size) (hn : l.length ≤ 1000000)
    (hK : ∀ v' w', OwnN B w' v' (l ++ [x]) → Below B w w' → wpList Try.prog ops Q rest (a.put o.dst v') w') : wpList Try.prog ops Q (o :: rest) a (w.alloc (.cells #[.int .i64 x] 3)) := by
  subst hH
  obtain ⟨v', w', hr, h1, _, h2⟩ := run_pushN h x hx hB hn
  exact Lib.wpList_append_run_sl _ hgd s t 23 ho v _ hs ht (by rw [hty]; exact hr) (hK v' w' h1 h2)
def findI (x : Bg) (id : Int) : Option Nat := x.ps.findIdx? fun y => y.1 == id
theorem isId_any {w : World} {b : Nat} {id : Int} (hb : w.cell? ⟨b, 0, none⟩ = some (.int .i64 id)) (i : Int) (p : Option Addr) (n c : Nat) : Calls Try.prog 88 #[.agg #[.int .i64 i, .slice p n c], .pointer (some ⟨b, 0, none⟩)] w fun e w' => e = .returned (.bool (i == id)) ∧ Below w.heap.size w w' := by
  have HB := hide ((Below.refl w.heap.size w).alloc (Nat.le_refl _) (.cells #[.int .i64 i, .slice p n c] 91))
  have k1 := Lib.cell?_alloc_some (.cells #[.int .i64 i, .slice p n c] 91) hb
  obtain ⟨q, hq⟩ : ∃ q, (i == id) = q := ⟨_, rfl⟩
  rw [hq]
  clear hb
  go_enter Try.func88, Try.ntmps88
  go_wp2
  go_ret
  exact ⟨rfl, HB.out⟩
theorem indexP_any {B : Nat} {w : World} {g b : Nat} {v : Value} {x : Bg} {id : Int} (h : BgIs B w g v x) (hb : w.cell? ⟨b, 0, none⟩ = some (.int .i64 id)) :
    Calls Try.prog 87 #[v, .func (.func 88) #[] #[.pointer (some ⟨b, 0, none⟩)]] w fun e w' => e = .returned (.int .i64 (match findI x id with | none => -1 | some k => (k : Int))) ∧ Below w.heap.size w w' := by
  obtain ⟨E, h1, h2⟩ := h.row
  obtain ⟨p, c, rfl, hc, hm⟩ := h1.sl
  obtain ⟨n, hEn⟩ : ∃ n, E.length = n := ⟨_, rfl⟩
  rw [hEn] at hc h1 ⊢
  have hmx : maxLen = 9223372036854775807 := rfl
  have hps : ∀ j, (hj : j < E.length) → (fun e : Pc => e.i == id) E[j] = (fun e : Int × Ms => e.1 == id) (x.ps[j]'(by rw [← h2.1]; exact hj)) := fun j hj => by
    obtain ⟨a, _⟩ := h2.2 j _ _ (List.getElem?_eq_getElem hj) (List.getElem?_eq_getElem (by rw [← h2.1]; exact hj))
    simp only [a]
  by_cases h0 : 0 < n
  · obtain ⟨g2, rfl, hB2, hx⟩ := h1.at_ h0
    have hlt : g2 < w.heap.size := lt_of_cell (hx 0 _ (List.getElem?_eq_getElem (by omega)) 0 _ rfl)
    have := AnyQ.slices_IndexFunc Try.idxPa 2 Try.isAgg91 Try.sizeOf91 pcC (fun _ => rfl) (fun e => e.i == id) 88 #[.pointer (some ⟨b, 0, none⟩)] (enters_of Try.func88 (by kernel_rfl) rfl) g2 0 n c E w
      (fun W e hb' => isId_any ((hb'.cell (lt_of_cell hb)).trans hb) e.i e.p e.n e.c |>.mono fun e9 w9 ⟨he9, hw9⟩ => ⟨he9, hb'.trans (hw9.mono hb'.size)⟩) (by omega) (by omega) hlt
      (fun j hj i u hi => by
        have e1 : E[j]! = E[j]'hj := by simp [hj]
        rw [e1] at hi
        have hk := hx j (E[j]'hj) (List.getElem?_eq_getElem hj) i u hi
        rw [Nat.zero_add]
        exact hk)
    refine this.mono fun e w' ⟨he, hw⟩ => ⟨?_, hw⟩
    rw [he]
    congr 2
    have hz : n ≤ E.length := by omega
    cases hf : findI x id with
    | none =>
      have hall := List.findIdx?_eq_none_iff.1 hf
      exact Lib.idxBy_miss (fun _ (y : Pc) => y.i == id) E n default fun j hj => by
        have e1 : E[j]! = E[j]'(by omega) := by simp [show j < E.length by omega]
        rw [e1]
        exact (hps j (by omega)).trans (hall _ (List.getElem_mem _))
    | some k =>
      obtain ⟨hk, hp, hq⟩ := List.findIdx?_eq_some_iff_getElem.1 hf
      have e1 : ∀ j, (hj : j < E.length) → E[j]! = E[j]'hj := fun j hj => by simp [hj]
      have hxl := h2.1
      exact Lib.idxBy_hit (fun _ (y : Pc) => y.i == id) E n k default (by omega) hz (by
        rw [e1 k (by omega)]
        exact (hps k (by omega)).trans hp) fun j hj => by
        rw [e1 j (by omega)]
        exact (hps j (by omega)).trans (by have := hq j hj; simpa using this)
  · obtain rfl : n = 0 := by omega
    have hx0 : x.ps = [] := List.eq_nil_of_length_eq_zero (by rw [← h2.1]; exact hEn)
    have hf0 : findI x id = none := by unfold findI; rw [hx0]; rfl
    rw [hf0]
    clear hc hm h1 h2 hEn hps h0 h hb hx0 hf0
    go_enter Try.func87, Try.ntmps87
    go_wp2
    go_loop [5, 8] (fun _ i => i = .int .i64 0) (fun _ _ => 0)
    case atStart => rfl
    case round =>
      subst hrel
      go_wp2
      go_ret
      exact ⟨rfl, Below.refl _ _⟩
def findR (x : Bg) (id : Int) : Int × Int := match findI x id with | none => (0, 130) | some k => ((k : Int), 0)
set_option maxRecDepth 100000 in
set_option maxHeartbeats 1000000 in
theorem find_bag {B : Nat} {w : World} {g : Nat} {v : Value} {x : Bg} (h : BgIs B w g v x) (id : Int) : Calls Try.prog 57 #[.pointer (some ⟨g, 0, none⟩), .int .i64 id] w fun e w' => e = .returned (.tuple #[.int .i64 (findR x id).1, .int .i64 (findR x id).2]) ∧ Below w.heap.size w w' := by
  have hb := (Below.refl w.heap.size w).alloc (Nat.le_refl _) (.cells #[.int .i64 id] 3)
  have h1 := h.below hb
  have hc0 : (w.alloc (.cells #[.int .i64 id] 3)).cell? ⟨w.heap.size, 0, none⟩ = some (.int .i64 id) := cell_of_row _ _ 0 _ _ (0, 0) (heap_alloc_new w _)
  have HO := hide (ok_bag h1)
  have HI := hide (indexP_any h1 hc0)
  have HB := hide hb
  have c2 := h1.c2
  unfold findR
  obtain ⟨r, hr⟩ : ∃ r, findI x id = r := ⟨_, rfl⟩
  rw [hr] at HI ⊢
  obtain ⟨E, hE, _⟩ := h.row
  obtain ⟨pv, cv, rfl, _⟩ := hE.sl
  obtain ⟨n, hn⟩ : ∃ n, E.length = n := ⟨_, rfl⟩
  rw [hn] at c2 HI
  clear h h1 hb hc0 hr hE hn
  go_enter Try.func57, Try.ntmps57
  go_wp2_with fail
  refine HO.out.mono ?_
  rintro e w' ⟨rfl, rfl⟩
  go_wp2_with fail
  refine HI.out.mono ?_
  rintro e w2 ⟨rfl, hb2⟩
  have HB2 := hide (HB.out.trans (hb2.mono HB.out.size))
  clear hb2
  cases r with
  | none =>
    go_wp2
    go_ret2
    exact ⟨rfl, HB2.out⟩
  | some k =>
    have hk : ¬ ((k : Int) < 0) := by omega
    dsimp only
    go_wp2
    go_ret2
    exact ⟨rfl, HB2.out⟩
set_option maxRecDepth 200000 in
set_option maxHeartbeats 4000000 in
theorem list_bag {B : Nat} {w : World} {g : Nat} {v : Value} {x : Bg} (h : BgIs B w g v x) : Calls Try.prog 33 #[.pointer (some ⟨g, 0, none⟩)] w fun e w' => ∃ u, e = .returned u ∧ OwnN w.heap.size w' u (x.ps.map (·.1)) ∧ Below w.heap.size w w' := by
  have HO := hide (ok_bag h)
  have c2 := h.c2
  obtain ⟨E, hE, hD⟩ := h.row
  obtain ⟨pv, cv, rfl, hcv, hcm⟩ := hE.sl
  obtain ⟨n, hn⟩ : ∃ n, E.length = n := ⟨_, rfl⟩
  rw [hn] at c2 hE
  have hn256 : n ≤ 256 := by have := h.ok.few; have := hD.1; omega
  have HID := hide h.ok.ids
  have HL1 := hide h.ok.l1
  have HE := hide hE
  have HD := hide hD
  have HN := hide hn
  clear h hE hD hcv hcm hn
  go_enter Try.func33, Try.ntmps33
  go_wp2_with fail
  refine HO.out.mono ?_
  rintro e w' ⟨rfl, rfl⟩
  go_wp2_with fail
  go_loopw [3, 5, 14] (fun u _ i wr => ∃ k : Nat, k ≤ n ∧ i = .int .i64 k ∧ (∃ p n c, u = .slice p n c) ∧ Hid (OwnN w.heap.size wr u ((x.ps.take k).map (·.1)) ∧ Below w.heap.size w wr)) (fun _ _ i _ => n - (intOf i).toNat)
  case atStart => exact ⟨0, by omega, rfl, ⟨_, _, _, rfl⟩, hide ⟨OwnN.nil _ _, Below.refl _ _⟩⟩
  case round =>
    obtain ⟨k, hk, rfl, ⟨pu, nu, cu, rfl⟩, HR⟩ := hrel
    by_cases hlt : k < n
    · have hkE : k < E.length := by have := HN.out; omega
      have hkx : k < x.ps.length := by have := HD.out.1; omega
      obtain ⟨e, he⟩ : ∃ e, E[k]? = some e := ⟨_, List.getElem?_eq_getElem hkE⟩
      obtain ⟨y, hy⟩ : ∃ y, x.ps[k]? = some y := ⟨_, List.getElem?_eq_getElem hkx⟩
      obtain ⟨hiy, _⟩ := HD.out.2 k e y he hy
      have hids := HID.out y (List.mem_of_getElem? hy)
      have HT : Hid ((x.ps.take (k + 1)).map (·.1) = (x.ps.take k).map (·.1) ++ [e.i]) := hide (by rw [List.take_add_one, hy, hiy]; simp)
      have HLE : Hid (((x.ps.take k).map (·.1)).length ≤ 1000000) := hide (by rw [List.length_map, List.length_take]; omega)
      have HF : Hid (fits e.i) := hide (by have := HL1.out; unfold fits; omega)
      obtain ⟨g2, rfl, _, hc⟩ := HE.out.at_ (by omega)
      have hcw := fun i u hu => (HR.out.2.cell (lt_of_cell (hc k e he i u hu))).trans (hc k e he i u hu)
      have c0 := hcw 0 _ rfl
      have c1 := hcw 1 _ rfl
      rw [Nat.add_zero] at c0
      obtain ⟨ei, pe, ne, ce⟩ := e
      dsimp only at c0 c1 HT HF
      have bZ := (Below.refl wr.heap.size wr).alloc (Nat.le_refl _) (.cells #[.int .i64 ei, .slice pe ne ce] 91)
      have z0 : (wr.alloc (.cells #[.int .i64 ei, .slice pe ne ce] 91)).cell? ⟨wr.heap.size, 0, none⟩ = some (.int .i64 ei) := cell_of_row _ _ 0 _ _ (0, 0) (heap_alloc_new wr _)
      obtain ⟨Z, hZ⟩ : ∃ Z, wr.alloc (.cells #[.int .i64 ei, .slice pe ne ce] 91) = Z := ⟨_, rfl⟩
      rw [hZ] at bZ z0
      have HOZ := hide (HR.out.1.below bZ)
      have HBZ := hide (HR.out.2.trans (bZ.mono HR.out.2.size))
      clear he hy hiy hids hc hcw bZ hkE hkx
      go_wp2_with (at_builtin; go_loud (refine wpList_pushN (w := Z) (v := .slice pu nu cu) rfl _ _ rfl rfl ei rfl rfl rfl HOZ.out HF.out HBZ.out.size HLE.out ?_); intro v6 w6 ho6 hb6; obtain ⟨p6, n6, c6, rfl⟩ := ho6.ns.sl; have HO6 := hide ho6; have HB6 := hide (HBZ.out.trans hb6); clear ho6 hb6)
      go_wp2
      go_roundw
      case rel => exact ⟨k + 1, by omega, by go_num, ⟨_, _, _, rfl⟩, hide ⟨by rw [HT.out]; exact HO6.out, HB6.out⟩⟩
      case measure => simp [intOf]; omega
    · have HT : Hid (x.ps.take k = x.ps) := hide (List.take_of_length_le (by have := HD.out.1; have := HN.out; omega))
      go_wp2
      go_ret
      have := HR.out.1
      rw [HT.out] at this
      exact ⟨_, rfl, this, HR.out.2⟩
end Go.Proofs.Ytiiollgipfggmaa
