/- Calls of a store that came in as an argument; short. -/
import Derived.Test.YtfedkjaollioaaaGreatSoAwL
import Derived.Test.YtfedkjaollioaaaGreatSpArg
namespace Go.Proofs.YtfedkjaollioaaaGreat
set_option linter.unusedVariables false
set_option linter.unusedSimpArgs false
open Go.RowKit Go.Deep Go.ChangeShapes

/-- A call of a store: its word, its spans and where they lie, its number. -/
structure Dn where
  op : Int
  p : Option Addr
  n : Nat
  c : Nat
  z : Int
  L : List Sp
instance : Inhabited Dn := ⟨⟨0, none, 0, 0, 0, []⟩⟩
def dnC (d : Dn) : List Value := [.int .i64 d.op, .slice d.p d.n d.c, .int .i64 d.z]
theorem dnC_length (d : Dn) : (dnC d).length = 3 := rfl
/-- A list of spans by itself: what reads it asks of names no more than that they are texts. -/
def SpsN (w : World) (d : Dn) : Prop := Sps w (.slice d.p d.n d.c) d.L ∧ ∀ y ∈ d.L, y.n.size ≤ maxLen
def Dns (w : World) (v : Value) (D : List Dn) : Prop := ∃ (p : Option Addr) (c : Nat), v = .slice p D.length c ∧ D.length ≤ c ∧ c ≤ maxLen ∧ ∀ (k : Nat) d, D[k]? = some d → ∃ g o, p = some ⟨g, o, none⟩ ∧ SpsN w d ∧ ∀ (j : Nat) x, (dnC d)[j]? = some x → w.cell? ⟨g, o + k * 3 + j, none⟩ = some x
theorem Dns.below {w w' : World} {v : Value} {D : List Dn} (h : Dns w v D) (hb : Below w.heap.size w w') : Dns w' v D := by
  obtain ⟨p, c, e, h1, h2, h3⟩ := h
  refine ⟨p, c, e, h1, h2, fun k d hk => ?_⟩
  obtain ⟨g, o, e1, hm, hc⟩ := h3 k d hk
  exact ⟨g, o, e1, ⟨hm.1.below hb, hm.2⟩, fun j x hj => (hb.cell (lt_of_cell (hc j x hj))).trans (hc j x hj)⟩
theorem Tryz.cellsSl : Tryz.prog.cellsOf 31 = 1 := by kernel_rfl
theorem Tryz.cellsDo : Tryz.prog.cellsOf 33 = 3 := by kernel_rfl
set_option maxRecDepth 200000 in
theorem dn_of_cells {H : Type} {enc : TypeId × Value → H} {W : World} {cs : List Value} {fuel : Nat} {x : DataW H × List MemPlace} (hcs : cs.length = 3)
    (h : DataW.trod enc Tryz.prog W 0 (fun _ => true) true fuel 33 cs = some x) : ∃ d : Dn, cs = dnC d ∧ SpsN W d := by
  obtain ⟨xs, n0, hd0, hd1, hd2, hxl, hx⟩ := DataW.trod_struct Tryz.underlying33 h
  obtain ⟨c0, c1, c2, rfl⟩ : ∃ c0 c1 c2, cs = [c0, c1, c2] := by
    rcases cs with _ | ⟨c0, _ | ⟨c1, _ | ⟨c2, _ | ⟨c3, r⟩⟩⟩⟩
    all_goals first | (exfalso; simp at hcs; done) | exact ⟨_, _, _, rfl⟩
  obtain ⟨y0, y1, y2, rfl⟩ : ∃ y0 y1 y2, xs = [y0, y1, y2] := by
    rcases xs with _ | ⟨c0, _ | ⟨c1, _ | ⟨c2, _ | ⟨c3, r⟩⟩⟩⟩
    all_goals first | (exfalso; simp at hxl; done) | exact ⟨_, _, _, rfl⟩
  have q0 : DataW.trod enc Tryz.prog W 0 (fun _ => true) true n0 3 (List.take (Tryz.prog.cellsOf 3) [c0, c1, c2]) = some y0 := hx 0 _ rfl
  rw [Tryz.cells3] at q0
  have q1 : DataW.trod enc Tryz.prog W 0 (fun _ => true) true n0 31 (List.take (Tryz.prog.cellsOf 31) [c1, c2]) = some y1 := hx 1 _ rfl
  rw [Tryz.cellsSl] at q1
  have q2 : DataW.trod enc Tryz.prog W 0 (fun _ => true) true n0 3 (List.take (Tryz.prog.cellsOf 3) [c2]) = some y2 := hx 2 _ rfl
  rw [Tryz.cells3] at q2
  obtain ⟨a0, e0, -, w0⟩ := DataW.trod_int Tryz.underlying3 q0
  obtain ⟨a2, e2, -, w2⟩ := DataW.trod_int Tryz.underlying3 q2
  simp at e0 e2
  subst e0 e2
  obtain ⟨p, n, c, rfl⟩ : ∃ p n c, c1 = .slice p n c := by
    rcases DataW.trod_slice Tryz.underlying31 q1 with ⟨hcs', _⟩ | ⟨a, len', cap', elems, rest, n, -, hcs', _⟩
    · simp at hcs'
      exact ⟨_, _, _, hcs'⟩
    · simp at hcs'
      exact ⟨_, _, _, hcs'⟩
  obtain ⟨l, hl, hn⟩ := sps_of_arg (a0 := p) (len := n) (cap := c) ⟨n0, q1⟩
  exact ⟨⟨a0, p, n, c, a2, l⟩, rfl, hl, hn⟩
set_option maxRecDepth 200000 in
theorem dns_of_arg {H : Type} {enc : TypeId × Value → H} {W : World} {a0 : Option Addr} {len cap : Nat} {d0 : DataW H} {p0 : List MemPlace}
    (h : DataW.Trod enc Tryz.prog W 0 (fun _ => true) true 22 (.slice a0 len cap) d0 p0) : ∃ D : List Dn, D.length = len ∧ Dns W (.slice a0 len cap) D := by
  obtain ⟨fuel, hf⟩ := h
  rcases DataW.trod_slice Tryz.underlying22 hf with ⟨hcs, _⟩ | ⟨a, len', cap', elems, rest, n, hx0, hcs, hd, -, hl, hm, hel, hx, -, -⟩
  · simp [Value.cells] at hcs
    obtain ⟨rfl, rfl, rfl⟩ := hcs
    exact ⟨[], rfl, none, 0, rfl, Nat.le_refl _, by simp [maxLen], fun i d hd => by simp at hd⟩
  · simp [Value.cells] at hcs
    obtain ⟨rfl, rfl, rfl⟩ := hcs
    rw [Tryz.cellsDo] at hx
    have each0 : ∀ i, (hi : i < len) → ∃ d : Dn, (∀ k, k < 3 → W.cell? ((a.add (i * 3)).add k) = (dnC d)[k]?) ∧ SpsN W d := fun i hi => by
      have h1 := hx i hi
      rw [List.getElem?_eq_getElem (by omega)] at h1
      obtain ⟨cs, h2, h3⟩ := Option.bind_eq_some_iff.1 h1
      obtain ⟨hb, hcl, hcell⟩ := World.cells?_some h2
      obtain ⟨d, rfl, hw⟩ := dn_of_cells hcl h3
      exact ⟨d, fun k hk => hcell k hk, hw⟩
    rcases Nat.eq_zero_or_pos len with h0 | h0
    · subst h0
      exact ⟨[], rfl, some a, cap, rfl, hl, hm, fun i d hd => by simp at hd⟩
    have hsp : a.spot = none := by
      obtain ⟨d, hc, _⟩ := each0 0 h0
      have z0 := World.cell?_spot (show W.cell? _ = some (.int .i64 d.op) from hc 0 (by omega))
      simp [Addr.add] at z0
      exact z0
    obtain ⟨g, o, spot⟩ := a
    obtain rfl : spot = none := hsp
    have each : ∀ i, i < len → ∃ d : Dn, (∀ k u, (dnC d)[k]? = some u → W.cell? ⟨g, o + i * 3 + k, none⟩ = some u) ∧ SpsN W d := fun i hi => by
      obtain ⟨d, hc, h2⟩ := each0 i hi
      refine ⟨d, fun k u hk => ?_, h2⟩
      have hk4 : k < 3 := by
        have := (List.getElem?_eq_some_iff.1 hk).1
        rwa [dnC_length] at this
      have := hc k hk4
      rw [add_lit0, add_lit0] at this
      rw [this]
      exact hk
    refine ⟨(List.range len).map fun i => if h : i < len then (each i h).choose else default, by simp, some ⟨g, o, none⟩, cap, by simp, by simpa using hl, hm, fun i d hi => ?_⟩
    have hlt : i < len := by
      have := (List.getElem?_eq_some_iff.1 hi).1
      simpa using this
    rw [List.getElem?_map, List.getElem?_range hlt, Option.map_some, dif_pos hlt] at hi
    injection hi with hi
    subst hi
    exact ⟨g, o, rfl, (each i hlt).choose_spec.2, (each i hlt).choose_spec.1⟩
/-- What short says. -/
def ShPost (D : List Dn) (e : Ending) : Prop := ∃ q, e = .returned (.bool q) ∧ (q = true → D.length ≤ 60 ∧ ∀ d ∈ D, lightL d.L = true)
set_option maxRecDepth 200000 in
set_option maxHeartbeats 4000000 in
theorem sshort_any {w : World} {v : Value} {D : List Dn} (h : Dns w v D) : Calls Tryz.prog 5 #[v] w fun e w' => ShPost D e ∧ Below w.heap.size w w' := by
  have HD := hide (fun W (hW : Below w.heap.size w W) => h.below hW)
  obtain ⟨p, c, rfl, hlc, hcm, hx⟩ := h
  have hn9 : (D.length : Int) ≤ 9223372036854775807 := by unfold maxLen at hcm; omega
  obtain ⟨n, hn⟩ : ∃ n, D.length = n := ⟨_, rfl⟩
  rw [hn] at hn9 HD ⊢
  have HN := hide hn
  clear hlc hcm hx hn
  go_enter Tryz.func5, Tryz.ntmps5
  go_wp2_with fail
  go_loopw [3, 4, 5, 7, 44] (fun a z i _ _ wr => ∃ (k : Nat) (b s : Int), k ≤ n ∧ k ≤ 61 ∧ i = .int .i64 k ∧ a = .int .i64 b ∧ z = .int .i64 s ∧ 0 ≤ b ∧ b ≤ 801 ∧ 0 ≤ s ∧ s ≤ (k : Int) * 400000000 ∧ Hid (Below w.heap.size w wr) ∧ Hid (∀ d ∈ D.take k, lightL d.L = true)) (fun _ _ i _ _ _ => n - (intOf i).toNat)
  case atStart => exact ⟨0, 0, 0, by omega, by omega, rfl, rfl, rfl, by omega, by omega, by omega, by omega, hide (Below.refl _ _), hide fun d hd => by simp at hd⟩
  case round =>
    obtain ⟨k, b, s, hk, hk1, rfl, rfl, rfl, hb0, hb1, hs0, hs1, HB, HS⟩ := hrel
    by_cases hlt : k < n
    · by_cases h4 : (k : Int) ≤ 60
      · have e1 : decide ((k : Int) ≤ 60) = true := decide_eq_true h4
        by_cases hb : b ≤ 400
        · have e2 : decide (b ≤ 400) = true := decide_eq_true hb
          have hkL : k < D.length := by have := HN.out; omega
          obtain ⟨d, hd⟩ : ∃ d, D[k]? = some d := ⟨_, List.getElem?_eq_getElem hkL⟩
          obtain ⟨p', c', hpe, _, _, hms⟩ := HD.out wr HB.out
          injection hpe with hpe1 hpe2 hpe3
          subst hpe1 hpe3
          clear hpe2
          obtain ⟨g2, o2, rfl, hmv, hc⟩ := hms k d hd
          obtain ⟨oo, hoo⟩ : ∃ oo, o2 + k * 3 = oo := ⟨_, rfl⟩
          rw [hoo] at hc
          have c1 := hc 1 _ rfl
          have HLI := hide (slight_any hmv.1 hmv.2)
          have HSP := hide hmv.1
          have HDD := hide hd
          obtain ⟨dn, hdn⟩ : ∃ x, d.n = x := ⟨_, rfl⟩
          obtain ⟨dp, hdp⟩ : ∃ x, d.p = x := ⟨_, rfl⟩
          obtain ⟨dc, hdc⟩ : ∃ x, d.c = x := ⟨_, rfl⟩
          rw [hdp, hdn, hdc] at c1 HLI HSP
          have hdl := HSP.out.len
          have hdm : (dn : Int) ≤ 9223372036854775807 := by have := hdl.2.2; have := hdl.2.1; unfold maxLen at *; omega
          have HLN := hide hdl.1
          have j0 : (0 : Int) ≤ (k : Int) := by omega
          have j1 : (k : Int) < (n : Int) := by omega
          clear hd hkL hmv hc hms hdp hdn hdc hdl
          obtain ⟨q, hq⟩ : ∃ q, lightL d.L = q := ⟨_, rfl⟩
          rw [hq] at HLI
          have HQ := hide hq
          clear hq
          go_wp2_with fail
          all_goals
            refine HLI.out.mono ?_
            rintro e w5 ⟨rfl, hw5⟩
            obtain rfl := hw5.symm
            cases q
            · go_wp2
              go_ret
              exact ⟨⟨_, rfl, fun hq => by cases hq⟩, HB.out⟩
            · have HLL := hide (slight_len HQ.out)
              have hd4 : dn ≤ 400 := by have := HLL.out.1; have := HLN.out; omega
              obtain ⟨b2, hb2⟩ : ∃ b2 : Int, b + min (dn : Int) 401 = b2 := ⟨_, rfl⟩
              rw [hb2]
              have hb3 : 0 ≤ b2 ∧ b2 ≤ 801 := by omega
              obtain ⟨hb4, hb5⟩ := hb3
              have hd4i : (dn : Int) ≤ 400 := by omega
              clear hb2
              obtain ⟨wo, rfl⟩ : ∃ wo : World, wo = wr := ⟨_, rfl⟩
              go_wp2_with fail
              go_loopw [4, 7, 44] (fun z _ j wz => ∃ (m : Nat) (s2 : Int), m ≤ dn ∧ j = .int .i64 m ∧ z = .int .i64 s2 ∧ 0 ≤ s2 ∧ s2 ≤ s + (m : Int) * 1000000 ∧ Hid (Below wo.heap.size wo wz)) (fun _ _ j _ => dn - (intOf j).toNat)
              case atStart => exact ⟨0, s, by omega, rfl, rfl, by omega, by omega, hide (Below.refl _ _)⟩
              case round =>
                obtain ⟨m, s2, hm, rfl, rfl, hs20, hs21, HBM⟩ := hrel
                by_cases hmd : (m : Int) < (dn : Int)
                · obtain ⟨gv, ov, rfl, hx⟩ := HSP.out.at_ (by omega)
                  obtain ⟨x, hxm⟩ : ∃ x, d.L[m]? = some x := ⟨_, List.getElem?_eq_getElem (by have := HLN.out; omega)⟩
                  have hat := (hx m x hxm).below HBM.out
                  obtain ⟨oo2, hoo2⟩ : ∃ oo2, ov + m * 6 = oo2 := ⟨_, rfl⟩
                  rw [hoo2] at hat
                  obtain ⟨z0, z1, z2, z3, z4, z5⟩ := And.intro hat.c0 (And.intro hat.c1 (And.intro hat.c2 (And.intro hat.c3 (And.intro hat.c4 hat.c5))))
                  have hxn := HLL.out.2 x (List.mem_of_getElem? hxm)
                  have hsn : (x.n.size : Int) ≤ 1000000 := by omega
                  have HBN : Hid (Below wo.heap.size wo (wr.alloc (.cells #[.int .i64 x.t, .int .i64 x.i, .int .i64 x.p, .int .i64 x.s, .int .i64 x.e, .string x.n] 38))) := hide (HBM.out.alloc HBM.out.size _)
                  have hws : IntKind.i64.wrap (s2 + (x.n.size : Int)) = s2 + (x.n.size : Int) := by rw [IntKind.wrap_i64]; omega
                  have hs9 : 0 ≤ s2 + (x.n.size : Int) ∧ s2 + (x.n.size : Int) ≤ s + ((m + 1 : Nat) : Int) * 1000000 := by omega
                  have HS9 := hide hs9
                  clear hx hxm hat hxn hs9
                  go_wp2
                  go_roundw
                  case rel => exact ⟨m + 1, _, by omega, by go_num, rfl, HS9.out.1, HS9.out.2, HBN⟩
                  case measure => simp [intOf]; omega
                · have hs9 : s2 ≤ ((k + 1 : Nat) : Int) * 400000000 := by omega
                  have HS9 := hide hs9
                  have HSN : Hid (∀ y ∈ D.take (k + 1), lightL y.L = true) := hide fun y hy => by
                    rw [List.take_add_one, HDD.out] at hy
                    simp only [Option.toList_some, List.mem_append, List.mem_singleton] at hy
                    rcases hy with hy | rfl
                    · exact HS.out y hy
                    · exact HQ.out
                  have HBO := hide (HB.out.trans (HBM.out.mono HB.out.size))
                  clear hs9
                  go_wp2
                  go_roundw
                  case rel => exact ⟨k + 1, b2, s2, by omega, by omega, by go_num, rfl, rfl, hb4, hb5, hs20, HS9.out, HBO, HSN⟩
                  case measure => simp [intOf]; omega
        · have e2 : decide (b ≤ 400) = false := decide_eq_false hb
          by_cases h5 : (n : Int) ≤ 60
          · have e5 : decide ((n : Int) ≤ 60) = true := decide_eq_true h5
            go_wp2
            go_ret
            exact ⟨⟨_, rfl, fun hq => by cases hq⟩, HB.out⟩
          · have e5 : decide ((n : Int) ≤ 60) = false := decide_eq_false h5
            go_wp2
            go_ret
            exact ⟨⟨_, rfl, fun hq => by cases hq⟩, HB.out⟩
      · have e1 : decide ((k : Int) ≤ 60) = false := decide_eq_false h4
        have e5 : decide ((n : Int) ≤ 60) = false := decide_eq_false (by omega)
        by_cases hb : b ≤ 400
        · have e2 : decide (b ≤ 400) = true := decide_eq_true hb
          go_wp2
          go_ret
          exact ⟨⟨_, rfl, fun hq => by cases hq⟩, HB.out⟩
        · have e2 : decide (b ≤ 400) = false := decide_eq_false hb
          go_wp2
          go_ret
          exact ⟨⟨_, rfl, fun hq => by cases hq⟩, HB.out⟩
    · by_cases h5 : (n : Int) ≤ 60
      · have e5 : decide ((n : Int) ≤ 60) = true := decide_eq_true h5
        have HT : Hid (D.length ≤ 60 ∧ ∀ d ∈ D, lightL d.L = true) := hide ⟨by have := HN.out; omega, by have h1 := HS.out; rwa [List.take_of_length_le (by have := HN.out; omega)] at h1⟩
        by_cases hb : b ≤ 400
        · have e2 : decide (b ≤ 400) = true := decide_eq_true hb
          go_wp2
          go_ret
          exact ⟨⟨_, rfl, fun _ => HT.out⟩, HB.out⟩
        · have e2 : decide (b ≤ 400) = false := decide_eq_false hb
          go_wp2
          go_ret
          exact ⟨⟨_, rfl, fun hq => by cases hq⟩, HB.out⟩
      · have e5 : decide ((n : Int) ≤ 60) = false := decide_eq_false h5
        go_wp2
        go_ret
        exact ⟨⟨_, rfl, fun hq => by cases hq⟩, HB.out⟩
end Go.Proofs.YtfedkjaollioaaaGreat
