/- light. -/
import Derived.Test.YtmalhdiholblgaaLTerms
namespace Go.Proofs.Ytmalhdiholblgaa
set_option linter.unusedVariables false
set_option linter.unusedSimpArgs false
open Go.RowKit

/-- The bytes of the first k entries, each counted up to a bound. -/
def bsum (l : List En) (k : Nat) : Nat := ((l.take k).map fun e => min e.d.length 65537).sum
theorem bsum_succ {l : List En} {k : Nat} {e : En} (h : l[k]? = some e) : bsum l (k + 1) = bsum l k + min e.d.length 65537 := by
  unfold bsum
  rw [List.take_add_one, h]
  simp
theorem bsum_le (l : List En) : ∀ k, bsum l k ≤ k * 65537
  | 0 => by simp [bsum]
  | k + 1 => by
    have ih := bsum_le l k
    by_cases h : k < l.length
    · rw [bsum_succ (List.getElem?_eq_getElem h)]
      omega
    · have : bsum l (k + 1) = bsum l k := by
        unfold bsum
        rw [List.take_of_length_le (by omega), List.take_of_length_le (by omega)]
      omega
def lightF : Int → Int → List (List En) → Bool
  | _, _, [] => true
  | m, n, l :: r => if 200 < m + l.length ∨ 65536 < n + bsum l (min l.length 201) then false else lightF (m + l.length) (n + bsum l (min l.length 201)) r
def lightL (L : List (List En)) : Bool := lightF 0 0 L
theorem lightF_few : ∀ {m n : Int} {L : List (List En)}, 0 ≤ m → lightF m n L = true → ∀ l ∈ L, l.length ≤ 200
  | m, n, [], _, _, l, hl => by cases hl
  | m, n, x :: r, h0, h, l, hl => by
    unfold lightF at h
    by_cases hc : 200 < m + x.length ∨ 65536 < n + bsum x (min x.length 201)
    · rw [if_pos hc] at h
      cases h
    · rw [if_neg hc] at h
      rcases List.mem_cons.1 hl with rfl | hl
      · omega
      · exact lightF_few (by omega) h l hl
theorem lightL_few {L : List (List En)} (h : lightL L = true) {l : List En} (hl : l ∈ L) : l.length ≤ 200 := lightF_few (Int.le_refl _) h l hl
/-- Lists of entries in memory. -/
def Enss (w : World) (v : Value) (L : List (List En)) : Prop :=
  ∃ (p : Option Addr) (c : Nat), v = .slice p L.length c ∧ L.length ≤ 100 ∧ ∀ (i : Nat) l, L[i]? = some l → ∃ g o u, p = some ⟨g, o, none⟩ ∧ w.cell? ⟨g, o + i, none⟩ = some u ∧ Ens w u l

set_option maxRecDepth 200000 in
set_option maxHeartbeats 4000000 in
theorem light_any {w : World} {v : Value} {L : List (List En)} (h : Enss w v L) (hs : ∀ l ∈ L, l.length ≤ 4611686018427387904) : Calls Try.prog 6 #[v] w fun e w' => e = .returned (.bool (lightL L)) ∧ w = w' := by
  obtain ⟨p, c, rfl, h9, hc⟩ := h
  have HC := hide hc
  have HS := hide hs
  clear hc hs
  go_enter Try.func6, Try.ntmps6
  go_wp2_with fail
  go_loop [3, 4, 6, 7, 10] (fun m n _ _ i => ∃ (k : Nat) (a b : Int), k ≤ L.length ∧ i = .int .i64 k ∧ m = .int .i64 a ∧ n = .int .i64 b ∧ 0 ≤ a ∧ a ≤ 200 ∧ 0 ≤ b ∧ b ≤ 65536 ∧ Hid (lightL L = lightF a b (L.drop k))) (fun _ _ _ _ i => L.length - (intOf i).toNat)
  case atStart => exact ⟨0, 0, 0, by omega, rfl, rfl, rfl, by omega, by omega, by omega, by omega, hide (by rw [List.drop_zero]; rfl)⟩
  case round =>
    obtain ⟨k, a, b, hk, rfl, rfl, rfl, ha0, ha1, hb0, hb1, HR⟩ := hrel
    by_cases hlt : k < L.length
    · obtain ⟨g, o, u, rfl, hcell, hu⟩ := HC.out k _ (List.getElem?_eq_getElem hlt)
      have HD : Hid (L.drop k = L[k] :: L.drop (k + 1)) := hide (List.drop_eq_getElem_cons hlt)
      have hsz := HS.out _ (List.getElem_mem hlt)
      obtain ⟨l, hl⟩ : ∃ l, L[k] = l := ⟨_, rfl⟩
      rw [hl] at HD hu hsz
      obtain ⟨pu, nu, cu, rfl⟩ := hu.sl
      obtain ⟨hn1, _, _⟩ := hu.len
      have HU := hide hu
      have HN := hide hn1
      have hn4 : (nu : Int) ≤ 4611686018427387904 := by omega
      clear hu hl hn1 hsz
      go_wp2_with fail
      go_loop [4, 7] (fun n i => ∃ j : Nat, j ≤ nu ∧ j ≤ 201 ∧ i = .int .i64 j ∧ ∃ s : Nat, n = .int .i64 (b + s) ∧ s ≤ 13172937 ∧ Hid (bsum l j = s)) (fun _ i => nu - (intOf i).toNat)
      case atStart => exact ⟨0, by omega, by omega, rfl, 0, by simp, by omega, hide rfl⟩
      case round =>
        obtain ⟨j, hj1, hj2, rfl, s, rfl, hs9, HS2⟩ := hrel
        by_cases hjl : j < nu
        · by_cases hj3 : j ≤ 200
          · obtain ⟨e, he⟩ : ∃ e, l[j]? = some e := ⟨_, List.getElem?_eq_getElem (by rw [← HN.out]; exact hjl)⟩
            obtain ⟨g2, o2, pd, nd, cd, rfl, hat, hby, hnd⟩ := HU.out.at_ he
            have c2 := hat.c2
            dsimp only at c2
            have HB := hide (bsum_succ he)
            have HBL := hide (bsum_le l (j + 1))
            have hndm : (nd : Int) ≤ 9223372036854775807 := by
              obtain ⟨_, cap, e1, h1, h2, _⟩ := hby
              injection e1
              unfold maxLen at h2
              omega
            have e1 : decide ((j : Int) ≤ 200) = true := by simp; omega
            obtain ⟨mn, hmn⟩ : ∃ mn : Nat, min (nd : Int) 65537 = (mn : Int) := ⟨min nd 65537, by omega⟩
            have HMN : Hid (bsum l (j + 1) = s + mn) := hide (by rw [HB.out, HS2.out, ← hnd]; omega)
            have hsm : s + mn ≤ 13172937 := by have := HBL.out; rw [HMN.out] at this; omega
            clear he hat hby hnd HB HBL
            go_wp2
            go_round
            case rel => exact ⟨j + 1, by omega, by omega, by go_num, s + mn, by first | go_num | (congr 1; omega) | (congr 1; push_cast; omega), hsm, HMN⟩
            case measure => simp [intOf]; omega
          · have hjm : j = min nu 201 := by omega
            have e0 : decide ((j : Int) ≤ 200) = false := by simp; omega
            have HSM : Hid (bsum l (min l.length 201) = s) := hide (by rw [← HN.out, ← hjm]; exact HS2.out)
            have HF : Hid (lightF a b (L.drop k) = if 200 < a + (nu : Int) ∨ 65536 < b + (s : Int) then false else lightF (a + nu) (b + s) (L.drop (k + 1))) := hide (by
              rw [HD.out]
              conv => lhs; unfold lightF
              rw [HSM.out, ← HN.out])
            by_cases h1 : 200 < a + (nu : Int)
            · have e1 : decide (200 < a + (nu : Int)) = true := by simpa using h1
              have HX : Hid (lightL L = false) := hide (by rw [HR.out, HF.out, if_pos (.inl h1)])
              clear hjm h1
              go_wp2
              go_ret
              exact ⟨ret_b HX.out, rfl⟩
            · have e1 : decide (200 < a + (nu : Int)) = false := by simpa using h1
              by_cases h2 : 65536 < b + (s : Int)
              · have e2 : decide (65536 < b + (s : Int)) = true := by simpa using h2
                have HX : Hid (lightL L = false) := hide (by rw [HR.out, HF.out, if_pos (.inr h2)])
                clear hjm h1 h2
                go_wp2
                go_ret
                exact ⟨ret_b HX.out, rfl⟩
              · have e2 : decide (65536 < b + (s : Int)) = false := by simpa using h2
                have HX : Hid (lightL L = lightF (a + nu) (b + s) (L.drop (k + 1))) := hide (by rw [HR.out, HF.out, if_neg (by omega)])
                clear hjm
                go_wp2
                go_round
                case rel => exact ⟨k + 1, a + nu, b + s, by omega, by go_num, rfl, rfl, by omega, by omega, by omega, by omega, HX⟩
                case measure => simp [intOf]; omega
        · have hjm : j = min nu 201 := by omega
          have HSM : Hid (bsum l (min l.length 201) = s) := hide (by rw [← HN.out, ← hjm]; exact HS2.out)
          have HF : Hid (lightF a b (L.drop k) = if 200 < a + (nu : Int) ∨ 65536 < b + (s : Int) then false else lightF (a + nu) (b + s) (L.drop (k + 1))) := hide (by
            rw [HD.out]
            conv => lhs; unfold lightF
            rw [HSM.out, ← HN.out])
          by_cases h1 : 200 < a + (nu : Int)
          · have e1 : decide (200 < a + (nu : Int)) = true := by simpa using h1
            have HX : Hid (lightL L = false) := hide (by rw [HR.out, HF.out, if_pos (.inl h1)])
            clear hjm h1
            go_wp2
            go_ret
            exact ⟨ret_b HX.out, rfl⟩
          · have e1 : decide (200 < a + (nu : Int)) = false := by simpa using h1
            by_cases h2 : 65536 < b + (s : Int)
            · have e2 : decide (65536 < b + (s : Int)) = true := by simpa using h2
              have HX : Hid (lightL L = false) := hide (by rw [HR.out, HF.out, if_pos (.inr h2)])
              clear hjm h1 h2
              go_wp2
              go_ret
              exact ⟨ret_b HX.out, rfl⟩
            · have e2 : decide (65536 < b + (s : Int)) = false := by simpa using h2
              have HX : Hid (lightL L = lightF (a + nu) (b + s) (L.drop (k + 1))) := hide (by rw [HR.out, HF.out, if_neg (by omega)])
              clear hjm
              go_wp2
              go_round
              case rel => exact ⟨k + 1, a + nu, b + s, by omega, by go_num, rfl, rfl, by omega, by omega, by omega, by omega, HX⟩
              case measure => simp [intOf]; omega
    · have HX : Hid (lightL L = true) := hide (by
        rw [HR.out, List.drop_eq_nil_of_le (by omega)]
        rfl)
      clear HR HC
      go_wp2
      go_ret
      exact ⟨ret_b HX.out, rfl⟩
end Go.Proofs.Ytmalhdiholblgaa
