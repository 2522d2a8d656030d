/- Calls that came in as a slice. -/
import Derived.Test.YtdghkmpcjjmlfaaDArg
namespace Go.Proofs.Ytdghkmpcjjmlfaa
open Go.RowKit Go.Deep Go.ChangeShapes

/-- A call, plainly. -/
structure Rec where
  op : Int
  name : ByteArray
  to : ByteArray
  at_ : Int
  b : List UInt8
  n : Int
  keep : Int
  tear : Int

structure RecAt (w : World) (g o : Nat) (x : Rec) (p : Option Addr) (m c : Nat) : Prop where
  c0 : w.cell? ⟨g, o, none⟩ = some (.int .i64 x.op)
  c1 : w.cell? ⟨g, o + 1, none⟩ = some (.string x.name)
  c2 : w.cell? ⟨g, o + 2, none⟩ = some (.string x.to)
  c3 : w.cell? ⟨g, o + 3, none⟩ = some (.int .i64 x.at_)
  c4 : w.cell? ⟨g, o + 4, none⟩ = some (.slice p m c)
  c5 : w.cell? ⟨g, o + 5, none⟩ = some (.int .i64 x.n)
  c6 : w.cell? ⟨g, o + 6, none⟩ = some (.int .i64 x.keep)
  c7 : w.cell? ⟨g, o + 7, none⟩ = some (.int .i64 x.tear)
  is_ : DoIs w (doV x.op x.name x.to x.at_ (.slice p m c) x.n x.keep x.tear) x.op x.name x.to x.at_ p m c x.b x.n x.keep x.tear
theorem DoIs.chg {w w' : World} {v : Value} {op : Int} {name to : ByteArray} {at_ : Int} {p : Option Addr} {m c : Nat} {b : List UInt8} {n keep tear : Int} (h : DoIs w v op name to at_ p m c b n keep tear) (hc : Chg w w' (fun _ => False)) : DoIs w' v op name to at_ p m c b n keep tear :=
  ⟨h.val, h.h1, h.h2, h.h3, h.hb.chg hc (.inr fun _ _ h => h), h.h4, h.h5, h.h6⟩
theorem RecAt.chg {w w' : World} {g o : Nat} {x : Rec} {p : Option Addr} {m c : Nat} (h : RecAt w g o x p m c) (hc : Chg w w' (fun _ => False)) : RecAt w' g o x p m c :=
  ⟨hc.cell h.c0 fun h => h, hc.cell h.c1 fun h => h, hc.cell h.c2 fun h => h, hc.cell h.c3 fun h => h, hc.cell h.c4 fun h => h, hc.cell h.c5 fun h => h, hc.cell h.c6 fun h => h, hc.cell h.c7 fun h => h, h.is_.chg hc⟩

structure Dos (w : World) (p : Option Addr) (len cap : Nat) (l : List Rec) : Prop where
  len_ : l.length = len
  cap_ : len ≤ cap
  max_ : cap ≤ maxLen
  at_ : 0 < len → ∃ g o, p = some ⟨g, o, none⟩ ∧ ∀ (i : Nat) (x : Rec), l[i]? = some x → ∃ q m c, RecAt w g (o + i * 8) x q m c
theorem Dos.chg {w w' : World} {p : Option Addr} {len cap : Nat} {l : List Rec} (h : Dos w p len cap l) (hc : Chg w w' (fun _ => False)) : Dos w' p len cap l :=
  ⟨h.len_, h.cap_, h.max_, fun hl => by
    obtain ⟨g, o, hp, hx⟩ := h.at_ hl
    exact ⟨g, o, hp, fun i x hi => by
      obtain ⟨q, m, c, hr⟩ := hx i x hi
      exact ⟨q, m, c, hr.chg hc⟩⟩⟩

set_option maxRecDepth 200000 in
theorem dos_of_arg {H : Type} {enc : TypeId × Value → H} {W : World} {a0 : Option Addr} {len cap : Nat} {d0 : DataW H} {p0 : List MemPlace}
    (h : DataW.Trod enc Try.prog W 0 (fun _ => true) true 22 (.slice a0 len cap) d0 p0) : ∃ l : List Rec, l.length = len ∧ Dos W a0 len cap l := by
  obtain ⟨fuel, hf⟩ := h
  rcases DataW.trod_slice Try.underlying22 hf with ⟨hcs, _⟩ | ⟨a, len', cap', elems, rest, n, -, hcs, -, -, hl, hm, hel, hx, -, -⟩
  · simp [Value.cells] at hcs
    obtain ⟨rfl, rfl, rfl⟩ := hcs
    exact ⟨[], rfl, rfl, Nat.le_refl _, by decide, fun h => by omega⟩
  · simp [Value.cells] at hcs
    obtain ⟨rfl, rfl, rfl⟩ := hcs
    rw [Try.cellsDo] at hx
    rcases Nat.eq_zero_or_pos len with h0 | h0
    · exact ⟨[], by simp [h0], by simp [h0], hl, hm, fun h => by omega⟩
    have hsp : a.spot = none := by
      have h1 := hx 0 h0
      rw [List.getElem?_eq_getElem (by omega)] at h1
      obtain ⟨cs, h2, h3⟩ := Option.bind_eq_some_iff.1 h1
      obtain ⟨hb, hcl, hcell⟩ := World.cells?_some h2
      obtain ⟨op, name, to, at_, p, m, c, b, n, keep, tear, rfl, hd⟩ := do_of_cells hcl h3
      have z0 := World.cell?_spot (hcell 0 (by omega))
      simp [Addr.add] at z0
      exact z0
    obtain ⟨g, o, spot⟩ := a
    obtain rfl : spot = none := hsp
    have each : ∀ i, i < len → ∃ x : Rec, ∃ q m c, RecAt W g (o + i * 8) x q m c := fun i hi => by
      have h1 := hx i hi
      rw [List.getElem?_eq_getElem (by omega)] at h1
      obtain ⟨cs, h2, h3⟩ := Option.bind_eq_some_iff.1 h1
      obtain ⟨hb, hcl, hcell⟩ := World.cells?_some h2
      obtain ⟨op, name, to, at_, p, m, c, b, n, keep, tear, rfl, hd⟩ := do_of_cells hcl h3
      have cc : ∀ k v, k < 8 → [Value.int .i64 op, .string name, .string to, .int .i64 at_, .slice p m c, .int .i64 n, .int .i64 keep, .int .i64 tear][k]? = some v → W.cell? ⟨g, o + i * 8 + k, none⟩ = some v := fun k v hk hv => by
        have := hcell k hk
        rw [add_lit0, add_lit0] at this
        rw [this]
        exact hv
      exact ⟨⟨op, name, to, at_, b, n, keep, tear⟩, p, m, c, ⟨cc 0 _ (by omega) rfl, cc 1 _ (by omega) rfl, cc 2 _ (by omega) rfl, cc 3 _ (by omega) rfl, cc 4 _ (by omega) rfl, cc 5 _ (by omega) rfl, cc 6 _ (by omega) rfl, cc 7 _ (by omega) rfl, hd⟩⟩
    refine ⟨(List.range len).map fun i => if h : i < len then (each i h).choose else ⟨0, ⟨#[]⟩, ⟨#[]⟩, 0, [], 0, 0, 0⟩, by simp, by simp, hl, hm, fun _ => ?_⟩
    refine ⟨g, o, rfl, fun i x hi => ?_⟩
    have hlt : i < len := by
      have := (List.getElem?_eq_some_iff.1 hi).1
      simpa using this
    rw [List.getElem?_map, List.getElem?_range hlt, Option.map_some, dif_pos hlt] at hi
    injection hi with hi
    subst hi
    obtain ⟨q, m, c, hr⟩ := (each i hlt).choose_spec
    exact ⟨q, m, c, hr⟩
end Go.Proofs.Ytdghkmpcjjmlfaa
