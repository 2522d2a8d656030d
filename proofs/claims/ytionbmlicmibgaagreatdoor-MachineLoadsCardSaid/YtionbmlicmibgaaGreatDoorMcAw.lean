import Derived.Test.YtionbmlicmibgaaGreatDoorMcBeg
import Derived.Test.YtionbmlicmibgaaGreatDoorMcRps
set_option linter.unusedVariables false
set_option linter.unusedSimpArgs false
namespace Go.Proofs.YtionbmlicmibgaaGreatDoor
open Go.Proofs.Tryz
open Go.RowKit
def vk (b : Nat) : List (Nat × Nat × Value) := [(b, 0, .int .i64 1), (b, 1, .int .i64 2), (b, 2, .int .i64 0), (b, 3, .int .i64 0), (b, 4, .int .i64 7), (b, 5, .string ⟨#[97]⟩)]
def Wc (b2 b3 b4 : Nat) : List Value := [.int .i64 1, .int .i64 0, .int .i64 0, .int .i64 0, .slice none 0 0, .slice none 0 0,
 .int .i64 2, .int .i64 1, .int .i64 1, .int .i64 0, .slice (some ⟨b2, 0, none⟩) 1 1, .slice none 0 0,
 .int .i64 2, .int .i64 1, .int .i64 1, .int .i64 0, .slice (some ⟨b3, 0, none⟩) 1 1, .slice none 0 0,
 .int .i64 3, .int .i64 0, .int .i64 0, .int .i64 3, .slice none 0 0, .slice none 0 0,
 .int .i64 2, .int .i64 1, .int .i64 2, .int .i64 0, .slice (some ⟨b4, 0, none⟩) 1 1, .slice none 0 0]
structure DC (b2 b3 b4 bC : Nat) (W : World) : Prop where
 s2 : ∀ x ∈ vk b2, W.cell? ⟨x.1, x.2.1, none⟩ = some x.2.2
 s3 : ∀ x ∈ vk b3, W.cell? ⟨x.1, x.2.1, none⟩ = some x.2.2
 s4 : ∀ x ∈ vk b4, W.cell? ⟨x.1, x.2.1, none⟩ = some x.2.2
 c : ∀ i u, (Wc b2 b3 b4)[i]? = some u → W.cell? ⟨bC, i, none⟩ = some u
theorem DF {b : Nat} {x : Nat × Nat × Value} (h : x ∈ vk b) : x.1 = b := by
 simp [vk] at h;rcases h with rfl | rfl | rfl | rfl | rfl | rfl <;> rfl
theorem DC.aU {b2 b3 b4 bC : Nat} {W W' : World} {S : Nat → Prop} (h : DC b2 b3 b4 bC W) (hc : ak W W' S) (h2 : ¬ S b2) (h3 : ¬ S b3) (h4 : ¬ S b4) (hC : ¬ S bC) : DC b2 b3 b4 bC W' :=
 ⟨fun x hx => hc.cell (h.s2 x hx) (by rw [DF hx]; exact h2), fun x hx => hc.cell (h.s3 x hx) (by rw [DF hx]; exact h3), fun x hx => hc.cell (h.s4 x hx) (by rw [DF hx]; exact h4), fun i u hu => hc.cell (h.c i u hu) hC⟩
theorem DC.below {b2 b3 b4 bC : Nat} {W W' : World} (h : DC b2 b3 b4 bC W) (hb : Below W.heap.size W W') : DC b2 b3 b4 bC W' := h.aU (ak.of_below hb fun _ => False) (fun e => e) (fun e => e) (fun e => e) (fun e => e)
theorem DG {W : World} {b : Nat} (h : ∀ x ∈ vk b, W.cell? ⟨x.1, x.2.1, none⟩ = some x.2.2) : iY W (.slice (some ⟨b, 0, none⟩) 1 1) [jF] := by
 refine ⟨_, 1, rfl, acE _, by simp [maxLen], (fun e => by cases e), fun _ => ⟨b, 0, rfl, fun i y hi => ?_⟩⟩
 match i, hi with
 | 0, hi =>
  simp at hi;subst hi;intro k u hk
  match k, hk with
  | 0, hk => exact (h (b, 0, .int .i64 1) (by simp [vk])).trans hk
  | 1, hk => exact (h (b, 1, .int .i64 2) (by simp [vk])).trans hk
  | 2, hk => exact (h (b, 2, .int .i64 0) (by simp [vk])).trans hk
  | 3, hk => exact (h (b, 3, .int .i64 0) (by simp [vk])).trans hk
  | 4, hk => exact (h (b, 4, .int .i64 7) (by simp [vk])).trans hk
  | 5, hk => exact (h (b, 5, .string ⟨#[97]⟩) (by simp [vk])).trans hk
  | k + 6, hk => simp [fW] at hk
 | i + 1, hi => simp at hi
theorem DC.cm {b2 b3 b4 bC : Nat} {W : World} (h : DC b2 b3 b4 bC W) (j : Nat) (cm : Cm) (hj : sP[j]? = some cm) : ∃ p n d, pZ W (.slice p n d) (.slice none 0 0) cm ∧
  W.cell? ⟨bC, j * 6, none⟩ = some (.int .i64 cm.k) ∧ W.cell? ⟨bC, j * 6 + 1, none⟩ = some (.int .i64 cm.se) ∧ W.cell? ⟨bC, j * 6 + 2, none⟩ = some (.int .i64 cm.sq) ∧ W.cell? ⟨bC, j * 6 + 3, none⟩ = some (.int .i64 cm.a) ∧ W.cell? ⟨bC, j * 6 + 4, none⟩ = some (.slice p n d) ∧ W.cell? ⟨bC, j * 6 + 5, none⟩ = some (.slice none 0 0) := by
 have im : ∀ x ∈ [jF], x.n.size ≤ 1100000 := by
  intro x hx;simp at hx;subst hx;decide
 match j, hj with
 | 0, hj => simp [sP] at hj; subst hj; exact ⟨none, 0, 0, ⟨iY.nil W, Ns.nil W, by simp⟩, h.c 0 _ rfl, h.c 1 _ rfl, h.c 2 _ rfl, h.c 3 _ rfl, h.c 4 _ rfl, h.c 5 _ rfl⟩
 | 1, hj => simp [sP] at hj; subst hj; exact ⟨_, 1, 1, ⟨DG h.s2, Ns.nil W, im⟩, h.c 6 _ rfl, h.c 7 _ rfl, h.c 8 _ rfl, h.c 9 _ rfl, h.c 10 _ rfl, h.c 11 _ rfl⟩
 | 2, hj => simp [sP] at hj; subst hj; exact ⟨_, 1, 1, ⟨DG h.s3, Ns.nil W, im⟩, h.c 12 _ rfl, h.c 13 _ rfl, h.c 14 _ rfl, h.c 15 _ rfl, h.c 16 _ rfl, h.c 17 _ rfl⟩
 | 3, hj => simp [sP] at hj; subst hj; exact ⟨none, 0, 0, ⟨iY.nil W, Ns.nil W, by simp⟩, h.c 18 _ rfl, h.c 19 _ rfl, h.c 20 _ rfl, h.c 21 _ rfl, h.c 22 _ rfl, h.c 23 _ rfl⟩
 | 4, hj => simp [sP] at hj; subst hj; exact ⟨_, 1, 1, ⟨DG h.s4, Ns.nil W, im⟩, h.c 24 _ rfl, h.c 25 _ rfl, h.c 26 _ rfl, h.c 27 _ rfl, h.c 28 _ rfl, h.c 29 _ rfl⟩
 | j + 5, hj => simp [sP] at hj
theorem dc.Kh {W : World} {P : Pm} {m : Mp} (hm : dc W P m) {g : Nat} {cur : Array Value} {ty : TypeId} {fz : Nat × Nat} (hh : W.heap[g]? = some (.cells cur ty fz)) (hty : ty ≠ 131) : ¬ Dz P g := by
 rintro (e | e | e)
 ·have h1 := hm.row;unfold iq at h1;rw [← e, hh] at h1;injection h1 with h1;injection h1 with _ h1;exact hty h1
 ·obtain ⟨D, hD⟩ := hm.tb.map;obtain ⟨es, clock, h1, _⟩ := hD.map;rw [e, h1] at hh;cases hh
 ·rcases e with e | ⟨x, hx, e⟩
  ·obtain ⟨D, hD⟩ := hm.so.map;obtain ⟨es, clock, h1, _⟩ := hD.map;rw [e, h1] at hh;cases hh
  ·obtain ⟨D, hD⟩ := (hm.so.fo x hx).FD;obtain ⟨es, clock, h1, _⟩ := hD.map;rw [e, h1] at hh;cases hh
theorem eE.yH {B : Nat} {W : World} {P : Pm} {m : Mp} {v : Value} {l : List Rp} (h : eE B W v l) (hm : dc W P m) : ∀ k, v.ownBlock = some k → ¬ Dz P k := by
 intro k hk;obtain ⟨_, ⟨rfl, _⟩ | ⟨g, cap, cur, rfl, _, hh, hc, _, hs, ht⟩⟩ := h
 ·cases hk
 ·have e : g = k := by simpa [Value.ownBlock] using hk
  subst e;exact hm.Kh hh (by decide)
theorem eE.aU {B : Nat} {W W' : World} {S : Nat → Prop} {v : Value} {l : List Rp} (h : eE B W v l) (hc : ak W W' S) (aN : ∀ k, v.ownBlock = some k → ¬ S k) : eE B W' v l := by
 unfold eE at *;obtain ⟨h0, h1 | ⟨g, cap, cur, rfl, hB, hh, r⟩⟩ := h
 ·exact ⟨h0, .inl h1⟩
 ·exact ⟨h0, .inr ⟨g, cap, cur, rfl, hB, (hc.block g (acJ.1 hh).1 (aN g rfl)).trans hh, r⟩⟩
theorem Cm.GN {c : Cm} (h : c.ok = true) : c.bytes.length ≤ 2000 := by
 have d9 : ∀ z : Int, 0 ≤ z → z ≤ 1099511627777 → (digits z.toNat).length ≤ 9 := fun z h0 h1 => digits_length z.toNat (by omega);have n1 : ∀ z : Int, 0 ≤ z → z ≤ 1099511627777 → (fX [z]).length ≤ 9 := fun z h0 h1 => by
  have := gO [z] (by simp; omega)
  simpa using this
 unfold Cm.bytes;rcases (Cm.aO _).1 h with ⟨h1, _⟩ | ⟨h1, _, h2, h3, h4⟩ | ⟨h1, _, h2⟩ | ⟨h1, _, h2⟩ | ⟨h1, _, h2⟩
 ·have := d9 c.k (by omega) (by omega);rw [acO (by omega), acO (by omega), acO (by omega), acO (by omega), adh];omega
 ·have h0 := d9 c.k (by omega) (by omega);have e2 := dj.1 h2;have e3 := dj.1 h3;have h5 := gO [c.se, c.sq] (by simp; omega);have h6 := p_ h4;have h7 := digits_length (cN c.sp).length (by omega);rw [acW h1];unfold NY;simp only [acH, acZ, ad8] at *;omega
 ·have h0 := d9 c.k (by omega) (by omega);have e2 := dj.1 h2;have h5 := n1 c.a e2.1 (by omega);rw [acO (by omega), acW h1, acH];omega
 ·have h0 := d9 c.k (by omega) (by omega);have e2 := dj.1 h2;have h5 := n1 c.a e2.1 (by omega);rw [acO (by omega), acO (by omega), acW h1, acH];omega
 ·have h0 := d9 c.k (by omega) (by omega);have e2 := jN h2;have h5 := n1 (c.vo.length : Int) (by omega) (by omega);have h6 := gO c.vo (fun n hn => by have := e2.2 n hn; omega);rw [acO (by omega), acO (by omega), acO (by omega), acW h1, acH, acH];omega
def AwN (b2 b3 b4 bC gi : Nat) : Prop := b2 ≠ gi ∧ b3 ≠ gi ∧ b4 ≠ gi ∧ bC ≠ gi
theorem DC.apply {b2 b3 b4 bC : Nat} {W W' : World} {P : Pm} {m : Mp} (h : DC b2 b3 b4 bC W) (hm : dc W P m) (hc : ak W W' (Dz P)) (hn : AwN b2 b3 b4 bC P.gi) : DC b2 b3 b4 bC W' :=
 h.aU hc (hm.yH (h.s2 (b2, 0, .int .i64 1) (by simp [vk])) hn.1) (hm.yH (h.s3 (b3, 0, .int .i64 1) (by simp [vk])) hn.2.1) (hm.yH (h.s4 (b4, 0, .int .i64 1) (by simp [vk])) hn.2.2.1) (hm.yH (h.c 0 _ rfl) hn.2.2.2)
theorem Ki {w2 w3 w4 X : World} (h3 : Below (w2.alloc (.cells #[.int .i64 1, .int .i64 2, .int .i64 0, .int .i64 0, .int .i64 7, .string ⟨#[97]⟩] 30)).heap.size (w2.alloc (.cells #[.int .i64 1, .int .i64 2, .int .i64 0, .int .i64 0, .int .i64 7, .string ⟨#[97]⟩] 30)) w3) (h4 : Below (w3.alloc (.cells #[.int .i64 1, .int .i64 2, .int .i64 0, .int .i64 0, .int .i64 7, .string ⟨#[97]⟩] 30)).heap.size (w3.alloc (.cells #[.int .i64 1, .int .i64 2, .int .i64 0, .int .i64 0, .int .i64 7, .string ⟨#[97]⟩] 30)) w4) (hX : (w4.alloc (.cells #[.int .i64 1, .int .i64 2, .int .i64 0, .int .i64 0, .int .i64 7, .string ⟨#[97]⟩] 30)).alloc (.cells (Wc w2.heap.size w3.heap.size w4.heap.size).toArray 25) = X) : DC w2.heap.size w3.heap.size w4.heap.size (w4.heap.size + 1) X ∧ Below w2.heap.size w2 X ∧ w2.heap.size < w3.heap.size ∧ w3.heap.size < w4.heap.size := by
 have hs : ∀ V : World, ∀ x ∈ vk V.heap.size, (V.alloc (.cells #[.int .i64 1, .int .i64 2, .int .i64 0, .int .i64 0, .int .i64 7, .string ⟨#[97]⟩] 30)).cell? ⟨x.1, x.2.1, none⟩ = some x.2.2 := by
  intro V x hx;simp [vk] at hx;rcases hx with rfl | rfl | rfl | rfl | rfl | rfl <;> (rw [adX]; rfl)
 have b2 := (acG w2.heap.size w2).alloc (acE _) (.cells #[.int .i64 1, .int .i64 2, .int .i64 0, .int .i64 0, .int .i64 7, .string ⟨#[97]⟩] 30);have b3 := (acG w3.heap.size w3).alloc (acE _) (.cells #[.int .i64 1, .int .i64 2, .int .i64 0, .int .i64 0, .int .i64 7, .string ⟨#[97]⟩] 30);have b4 := (acG w4.heap.size w4).alloc (acE _) (.cells #[.int .i64 1, .int .i64 2, .int .i64 0, .int .i64 0, .int .i64 7, .string ⟨#[97]⟩] 30);have z2 : (w2.alloc (.cells #[.int .i64 1, .int .i64 2, .int .i64 0, .int .i64 0, .int .i64 7, .string ⟨#[97]⟩] 30)).heap.size = w2.heap.size + 1 := by simp
 have z3 : (w3.alloc (.cells #[.int .i64 1, .int .i64 2, .int .i64 0, .int .i64 0, .int .i64 7, .string ⟨#[97]⟩] 30)).heap.size = w3.heap.size + 1 := by simp
 have z4 : (w4.alloc (.cells #[.int .i64 1, .int .i64 2, .int .i64 0, .int .i64 0, .int .i64 7, .string ⟨#[97]⟩] 30)).heap.size = w4.heap.size + 1 := by simp
 have s2 := hs w2;have s3 := hs w3;have s4 := hs w4;generalize (w2.alloc (.cells #[.int .i64 1, .int .i64 2, .int .i64 0, .int .i64 0, .int .i64 7, .string ⟨#[97]⟩] 30)) = V2 at *;generalize (w3.alloc (.cells #[.int .i64 1, .int .i64 2, .int .i64 0, .int .i64 0, .int .i64 7, .string ⟨#[97]⟩] 30)) = V3 at *;generalize (w4.alloc (.cells #[.int .i64 1, .int .i64 2, .int .i64 0, .int .i64 0, .int .i64 7, .string ⟨#[97]⟩] 30)) = V4 at *;have bX : Below V4.heap.size V4 X := by rw [← hX]; exact (acG _ _).alloc (acE _) _
 have cX : ∀ i u, (Wc w2.heap.size w3.heap.size w4.heap.size)[i]? = some u → X.cell? ⟨w4.heap.size + 1, i, none⟩ = some u := fun i u hu => by rw [← hX, ← z4, adX]; simpa using hu
 have e3 := h3.size;have e4 := h4.size;have b34 : Below V3.heap.size V3 X := h4.trans ((b4.mono e4).trans (bX.mono (by omega)));have b23 : Below V2.heap.size V2 X := h3.trans ((b3.mono e3).trans (b34.mono (by omega)));have kp : ∀ {V : World} (b : Nat), Below V.heap.size V X → (∀ x ∈ vk b, V.cell? ⟨x.1, x.2.1, none⟩ = some x.2.2) → ∀ x ∈ vk b, X.cell? ⟨x.1, x.2.1, none⟩ = some x.2.2 := fun b hb h x hx => (hb.cell (lt_of_cell (h x hx))).trans (h x hx);exact ⟨⟨kp _ b23 s2, kp _ b34 s3, kp _ bX s4, cX⟩, b2.trans (b23.mono (by omega)), by omega, by omega⟩
theorem AG {w : World} {gm : Nat} {P : Pm} {m : Mp} (h : dK w gm P m) (h1 : m.S.length = 1) : Calls prog 42 #[.pointer (some ⟨gm, 0, none⟩)] w fun e w' => ∃ p c, e = .returned (.slice p 1 c) ∧ Below w.heap.size w w' := (oQ h).mono fun e w' ⟨v, he, ho, hb⟩ => by
 have hR : P.R.length = 1 := by rw [← adv (f := Tr.pl), h.is.pl]; exact h1
 rw [hR] at ho;obtain ⟨_, ⟨_, h0⟩ | ⟨g, cap, cur, rfl, _⟩⟩ := ho
 ·omega
 ·exact ⟨_, _, he, hb⟩
theorem dK.eG {w w' : World} {gm : Nat} {P : Pm} {m : Mp} {S : Nat → Prop} (h : dK w gm P m) (hc : ak w w' S) (hS : ∀ k, kU P k → ¬ S k) (h0 : ¬ S 0) (hg : ¬ S gm) : dK w' gm P m := ⟨(hc.block gm h.lt hg).trans h.row, h.is.aU hc hS h0, h.ne, h.nz⟩
set_option maxRecDepth 200000 in
set_option maxHeartbeats 8000000 in
theorem ob {w : World} (hE : ko w) : Calls prog 15 #[] w fun e w' => e = .returned (.bool true) ∧ Below w.heap.size w w' := by
 have HE := af hE;have Zr := af (DI hE);clear hE;go_enter func15, ntmps15
 go_wp2_with fail
 refine Zr.out.mono ?_;rintro e w1 ⟨gm, P, rfl, hm, hn, hg, aK⟩;have H1 := af (acD hm (acD hn (acD hg aK)));clear hm hn hg aK Zr;go_wp2_with fail
 refine (sQ _).mono ?_;rintro e w2 ⟨rfl, aP⟩;have cE := af aP;clear aP;go_wp2_with fail
 refine (sQ _).mono ?_;rintro e w3 ⟨rfl, cF⟩;have fH := af cF;clear cF;go_wp2_with fail
 refine (sQ _).mono ?_;rintro e w4 ⟨rfl, bY⟩;have dL := af bY;clear bY;go_upto_region 6 with fail
 obtain ⟨X, hX⟩ : ∃ X, (w4.alloc (.cells #[.int .i64 1, .int .i64 2, .int .i64 0, .int .i64 0, .int .i64 7, .string ⟨#[97]⟩] 30)).alloc (.cells (Wc w2.heap.size w3.heap.size w4.heap.size).toArray 25) = X := ⟨_, rfl⟩
 obtain ⟨hF, oK, aae, aaf⟩ := Ki fH.out dL.out hX;unfold Wc at hX;rw [hX];clear hX;have Kj := af hF;have dH : Hid (Below w1.heap.size w1 X) := af (cE.out.trans (oK.mono cE.out.size));have HWX : Hid (Below w.heap.size w X) := af (H1.out.2.2.2.trans (dH.out.mono H1.out.2.2.2.size));have Ak : Hid (AwN w2.heap.size w3.heap.size w4.heap.size (w4.heap.size + 1) P.gi) := af (by
  have h1 := H1.out.1.is.row.lt;have h2 := cE.out.size;refine ⟨?_, ?_, ?_, ?_⟩ <;> omega)
 obtain ⟨b2, e2⟩ : ∃ b, w2.heap.size = b := ⟨_, rfl⟩
 obtain ⟨b3, e3⟩ : ∃ b, w3.heap.size = b := ⟨_, rfl⟩
 obtain ⟨b4, e4⟩ : ∃ b, w4.heap.size = b := ⟨_, rfl⟩
 obtain ⟨bC, eC⟩ : ∃ b, b4 + 1 = b := ⟨_, rfl⟩
 rw [e2, e3, e4, eC] at Kj Ak;rw [e2, e3, e4, eC];clear hF oK aae aaf e2 e3 e4 eC cE fH dL;go_loopw [3, 29] (fun v i wr => ∃ k : Nat, k ≤ 5 ∧ i = .int .i64 k ∧ (∃ p n c, v = .slice p n c) ∧ Hid (eE X.heap.size wr v (GQ.take k) ∧ DC b2 b3 b4 bC wr ∧ Below w.heap.size w wr ∧ (∃ P', dK wr gm P' (RR k) ∧ P'.gi = P.gi ∧ (∀ j, kU P' j → w.heap.size ≤ j) ∧ ∀ j, v.ownBlock = some j → ¬ kU P' j) ∧ X.heap.size ≤ wr.heap.size)) (fun _ i _ => 5 - (intOf i).toNat)
 case atStart => exact ⟨0, by omega, rfl, ⟨_, _, _, rfl⟩, af ⟨aex _ _ _ _, Kj.out, HWX.out, ⟨P, H1.out.1.below dH.out, rfl, H1.out.2.1, fun j e => by cases e⟩, acE _⟩⟩
 case round =>
  obtain ⟨k, hk, rfl, ⟨pv, nv, cv, rfl⟩, HR⟩ := hrel;by_cases bd : k < 5
  ·obtain ⟨cm, kO⟩ : ∃ c, sP[k]? = some c := ⟨_, acF (show k < sP.length from bd)⟩
   obtain ⟨rp, hrp⟩ : ∃ r, GQ[k]? = some r := ⟨_, acF (show k < GQ.length from bd)⟩
   have eH := af (RS k cm rp kO hrp);have HCO := af (Kk k cm kO);have iB : Hid (GQ.take (k + 1) = GQ.take k ++ [rp]) := af (by rw [ac5, hrp]; rfl);obtain ⟨p, n, d, UZ, c0, c1, c2, c3, c4, c5⟩ := HR.out.2.1.cm k cm kO;have Zs := af UZ;clear kO hrp UZ;obtain ⟨oo, iu⟩ : ∃ oo, k * 6 = oo := ⟨_, rfl⟩
   rw [iu] at c0 c1 c2 c3 c4 c5;have HMP := af (oR (Zs.out.below ((acG wr.heap.size wr).alloc (acE _) (.cells #[.int .i64 cm.k, .int .i64 cm.se, .int .i64 cm.sq, .int .i64 cm.a, .slice p n d, .slice none 0 0] 25))));have Al : Hid (Below wr.heap.size wr (wr.alloc (.cells #[.int .i64 cm.k, .int .i64 cm.se, .int .i64 cm.sq, .int .i64 cm.a, .slice p n d, .slice none 0 0] 25))) := af ((acG wr.heap.size wr).alloc (acE _) _);unfold pW at HMP;have hki : IntKind.i64.wrap ((k : Int) + 1) = (k : Int) + 1 := IntWalk.i64_in _ (by omega);go_wp2_with fail
   refine HMP.out.mono ?_;intro e w5 hp5;rcases hp5 with ⟨_, pb, nb, cb, rfl, FE, aL⟩ | ⟨fI, _⟩;case inr => rw [HCO.out] at fI; cases fI
   have cH : Hid (Below wr.heap.size wr w5) := af (Al.out.trans (aL.mono Al.out.size));have eI := af FE.bp;clear FE aL c0 c1 c2 c3 c4 c5 HMP;go_wp2_with fail
   obtain ⟨P4, GR, lz, Zt, hv4⟩ := HR.out.2.2.2.1;refine (Dy (GR.below cH.out) (ix := (k : Int) + 1) (tm := 1) eI.out (by have := Cm.GN HCO.out; omega)).mono ?_;intro e w6 hp6;rw [eH.out] at hp6;obtain ⟨rfl, P6, eZ, U1⟩ := hp6;have HF6 : Hid (DC b2 b3 b4 bC w6) := af ((HR.out.2.1.below cH.out).apply (GR.below cH.out).is eZ.aU (by rw [lz]; exact Ak.out));have wZ : Hid (eE X.heap.size w6 (.slice pv nv cv) (GQ.take k)) := af ((HR.out.1.below cH.out).aU eZ.aU ((HR.out.1.below cH.out).yH (GR.below cH.out).is));have oL : Hid (Below w.heap.size w w6) := af (ak.aZ (HR.out.2.2.1.trans (cH.out.mono HR.out.2.2.1.size)) eZ.aU (fun j hj => Zt j hj.sub));have GX : Hid (dK w6 gm P6 (RR (k + 1)) ∧ P6.gi = P.gi ∧ (∀ j, kU P6 j → w.heap.size ≤ j) ∧ ∀ j, (Value.slice pv nv cv).ownBlock = some j → ¬ kU P6 j) := af ⟨U1, eZ.gi.trans lz, fun j hj => by
    rcases eZ.new j hj with h1 | h1
    ·exact Zt j h1
    ·have := HR.out.2.2.1.size; have := cH.out.size; omega, fun j hj h6 => by
    rcases eZ.new j h6 with h1 | h1
    ·exact hv4 j hj h1
    ·have := (HR.out.1.lt j hj).2; have := cH.out.size; omega⟩
   have Ql : Hid (X.heap.size ≤ w6.heap.size ∧ gm < X.heap.size ∧ b2 < X.heap.size ∧ b3 < X.heap.size ∧ b4 < X.heap.size ∧ bC < X.heap.size ∧ 0 < X.heap.size) := af ⟨acN HR.out.2.2.2.2 (acN cH.out.size eZ.aU.size), by have := H1.out.1.lt; have := dH.out.size; omega, lt_of_cell (Kj.out.s2 (b2, 0, .int .i64 1) (by simp [vk])), lt_of_cell (Kj.out.s3 (b3, 0, .int .i64 1) (by simp [vk])), lt_of_cell (Kj.out.s4 (b4, 0, .int .i64 1) (by simp [vk])), lt_of_cell (Kj.out.c 0 _ rfl), by have := H1.out.1.lt; have := dH.out.size; omega⟩;clear GR lz Zt hv4 eZ U1 eI Zs eH;unfold wY;have vS := (acG w6.heap.size w6).alloc (acE _) (.cells #[.int .i64 rp.er, .int .i64 rp.rs, .int .i64 rp.gn, .int .i64 rp.ad, .int .i64 rp.sa, .int .i64 rp.ot, .int .i64 rp.cy, .int .i64 rp.fu] 66);have RX := af vS;have U2 := af (wZ.out.below vS);clear vS;go_upto_region 12 with fail
   go_wp2_with (at_builtin; go_must (refine vT (v := .slice pv nv cv) rfl _ _ rfl rfl rp rfl rfl (by simp) U2.out (by have := Ql.out.1; have := RX.out.size; omega) (by simp; omega) ?_); intro v7 w7 nE cZ qb Wd; obtain ⟨p7, n7, c7, rfl⟩ := nE.nP.sl; have H7 := af (acD nE (acD qb Wd)); clear nE cZ qb Wd)
   have Zu : Hid (ak w6 w7 fun j => (Value.slice pv nv cv).ownBlock = some j) := af ((ak.of_below RX.out _).trans (ak.aV H7.out.2.1 _ (fun j e => .inl e)) (fun j e => .inl e));have HF7 : Hid (DC b2 b3 b4 bC w7) := af (HF6.out.aU Zu.out (fun e => by have := (wZ.out.lt _ e).1; have := Ql.out; omega) (fun e => by have := (wZ.out.lt _ e).1; have := Ql.out; omega) (fun e => by have := (wZ.out.lt _ e).1; have := Ql.out; omega) (fun e => by have := (wZ.out.lt _ e).1; have := Ql.out; omega));have HM7 : Hid (dK w7 gm P6 (RR (k + 1))) := af (GX.out.1.eG Zu.out (fun j hj e => GX.out.2.2.2 j e hj) (fun e => by have := (wZ.out.lt _ e).1; have := Ql.out; omega) (fun e => by have := (wZ.out.lt _ e).1; have := Ql.out; omega));have lQ : Hid (Below w.heap.size w w7) := af (ak.aZ oL.out Zu.out (fun j e => by have := (wZ.out.lt j e).1; have := HWX.out.size; omega));have HV7 : Hid (∀ j, (Value.slice p7 n7 c7).ownBlock = some j → ¬ kU P6 j) := af (fun j hj => by
    rcases H7.out.2.2 with e | e
    ·rw [e] at hj; exact GX.out.2.2.2 j hj
    ·rw [e] at hj;injection hj with hj;intro h6;have := GX.out.1.is.lt j h6;have := RX.out.size;omega)
   go_roundw;case rel => exact ⟨k + 1, by omega, by go_num, ⟨_, _, _, rfl⟩, af ⟨by rw [iB.out]; exact H7.out.1, HF7.out, lQ.out, ⟨P6, HM7.out, GX.out.2.1, GX.out.2.2.1, HV7.out⟩, by have := Ql.out.1; have := Zu.out.size; omega⟩⟩
   case measure => simp [intOf]; omega
  ·obtain rfl : k = 5 := by omega
   obtain ⟨P5, Qm, ik, w_, hv5⟩ := HR.out.2.2.2.1;obtain ⟨Db, g, rfl, yI⟩ := HR.out.1.cells (by decide);obtain rfl : nv = 5 := Db;have Am : Hid (Below w.heap.size w wr) := af HR.out.2.2.1;have HMT := af (fun W (hW : Below wr.heap.size wr W) => AG (Qm.below hW) rfl);have kc : ∀ (U : World) (i : Nat) (u : Value), ((GQ.take 5).flatMap vU)[i]? = some u → Below wr.heap.size wr U → U.cell? ⟨g, i, none⟩ = some u := fun U i u hi hU => (hU.cell (lt_of_cell (yI i u hi))).trans (yI i u hi);have eJ : Hid (∀ U, Below wr.heap.size wr U → U.cell? ⟨g, 1, none⟩ = some (.int .i64 1) ∧ U.cell? ⟨g, 8, none⟩ = some (.int .i64 0) ∧ U.cell? ⟨g, 9, none⟩ = some (.int .i64 0) ∧ U.cell? ⟨g, 10, none⟩ = some (.int .i64 0) ∧ U.cell? ⟨g, 11, none⟩ = some (.int .i64 1) ∧ U.cell? ⟨g, 12, none⟩ = some (.int .i64 0) ∧ U.cell? ⟨g, 13, none⟩ = some (.int .i64 0) ∧ U.cell? ⟨g, 14, none⟩ = some (.int .i64 0) ∧ U.cell? ⟨g, 15, none⟩ = some (.int .i64 0) ∧ U.cell? ⟨g, 16, none⟩ = some (.int .i64 0) ∧ U.cell? ⟨g, 17, none⟩ = some (.int .i64 0) ∧ U.cell? ⟨g, 18, none⟩ = some (.int .i64 0) ∧ U.cell? ⟨g, 19, none⟩ = some (.int .i64 1) ∧ U.cell? ⟨g, 20, none⟩ = some (.int .i64 0) ∧ U.cell? ⟨g, 21, none⟩ = some (.int .i64 0) ∧ U.cell? ⟨g, 22, none⟩ = some (.int .i64 0) ∧ U.cell? ⟨g, 23, none⟩ = some (.int .i64 0) ∧ U.cell? ⟨g, 26, none⟩ = some (.int .i64 1) ∧ U.cell? ⟨g, 32, none⟩ = some (.int .i64 80)) := af fun U hU => ⟨kc _ 1 _ rfl hU, kc _ 8 _ rfl hU, kc _ 9 _ rfl hU, kc _ 10 _ rfl hU, kc _ 11 _ rfl hU, kc _ 12 _ rfl hU, kc _ 13 _ rfl hU, kc _ 14 _ rfl hU, kc _ 15 _ rfl hU, kc _ 16 _ rfl hU, kc _ 17 _ rfl hU, kc _ 18 _ rfl hU, kc _ 19 _ rfl hU, kc _ 20 _ rfl hU, kc _ 21 _ rfl hU, kc _ 22 _ rfl hU, kc _ 23 _ rfl hU, kc _ 26 _ rfl hU, kc _ 32 _ rfl hU⟩
   clear Qm ik w_ hv5 yI kc;go_upto_region 14 with fail
   refine ado (S := (fun U => U.cell? ⟨g, 1, none⟩ = some (.int .i64 1) ∧ U.cell? ⟨g, 8, none⟩ = some (.int .i64 0) ∧ U.cell? ⟨g, 9, none⟩ = some (.int .i64 0) ∧ U.cell? ⟨g, 10, none⟩ = some (.int .i64 0) ∧ U.cell? ⟨g, 11, none⟩ = some (.int .i64 1) ∧ U.cell? ⟨g, 12, none⟩ = some (.int .i64 0) ∧ U.cell? ⟨g, 13, none⟩ = some (.int .i64 0) ∧ U.cell? ⟨g, 14, none⟩ = some (.int .i64 0) ∧ U.cell? ⟨g, 15, none⟩ = some (.int .i64 0) ∧ U.cell? ⟨g, 16, none⟩ = some (.int .i64 0) ∧ U.cell? ⟨g, 17, none⟩ = some (.int .i64 0) ∧ U.cell? ⟨g, 18, none⟩ = some (.int .i64 0) ∧ U.cell? ⟨g, 19, none⟩ = some (.int .i64 1) ∧ U.cell? ⟨g, 20, none⟩ = some (.int .i64 0) ∧ U.cell? ⟨g, 21, none⟩ = some (.int .i64 0) ∧ U.cell? ⟨g, 22, none⟩ = some (.int .i64 0) ∧ U.cell? ⟨g, 23, none⟩ = some (.int .i64 0) ∧ U.cell? ⟨g, 26, none⟩ = some (.int .i64 1) ∧ U.cell? ⟨g, 32, none⟩ = some (.int .i64 80))) (by kernel_rfl) (eJ.out _ (ag wr 1)) (fun hHeld => ?_);refine ao 0 rfl ?_;refine ao 1 rfl ?_;refine ao 2 rfl ?_;refine ao 3 rfl ?_;refine fy (i := 4) (v := (.bool true)) (eY rfl) (by rfl) ?_ ?_
   focus
    intro w cq
   rotate_left;try simp only [Act.put, qA, qB, qC]
   refine fy (i := 5) (v := (.bool true)) (eY rfl) (by rfl) ?_ ?_
   focus
    intro w cq
   rotate_left;try simp only [Act.put, qA, qB, qC]
   refine ao 6 rfl ?_;refine ao 7 rfl ?_;refine ao 8 rfl ?_;refine ao 9 rfl ?_;refine ao 10 rfl ?_;refine fy (i := 11) (v := (.bool true)) (eY rfl) (by rfl) ?_ ?_
   focus
    intro w cq
   rotate_left;try simp only [Act.put, qA, qB, qC]
   refine fy (i := 12) (v := (.bool true)) (eY rfl) (by rfl) ?_ ?_
   focus
    intro w cq
   rotate_left;try simp only [Act.put, qA, qB, qC]
   refine fy (i := 13) (v := (.bool true)) (eY rfl) (by rfl) ?_ ?_
   focus
    intro w cq
   rotate_left;try simp only [Act.put, qA, qB, qC]
   refine ao 14 rfl ?_;refine ao 15 rfl ?_;refine ao 16 rfl ?_;refine ao 17 rfl ?_;refine ao 18 rfl ?_;refine ao 19 rfl ?_;refine fy (i := 20) (v := (.bool true)) (eY rfl) (by rfl) ?_ ?_
   focus
    intro w cq
   rotate_left;try simp only [Act.put, qA, qB, qC]
   refine fy (i := 21) (v := (.bool true)) (eY rfl) (by rfl) ?_ ?_
   focus
    intro w cq
   rotate_left;try simp only [Act.put, qA, qB, qC]
   refine fy (i := 22) (v := (.bool true)) (eY rfl) (by rfl) ?_ ?_
   focus
    intro w cq
   rotate_left;try simp only [Act.put, qA, qB, qC]
   refine ao 23 rfl ?_;refine ao 24 rfl ?_;refine ao 25 rfl ?_;refine ao 26 rfl ?_;refine fy (i := 27) (v := (.bool true)) (eY rfl) (by rfl) ?_ ?_
   focus
    intro w cq
   rotate_left;try simp only [Act.put, qA, qB, qC]
   refine fy (i := 28) (v := (.bool true)) (eY rfl) (by rfl) ?_ ?_
   focus
    intro w cq
   rotate_left;try simp only [Act.put, qA, qB, qC]
   refine fy (i := 29) (v := (.bool true)) (eY rfl) (by rfl) ?_ ?_
   focus
    intro w cq
   rotate_left;try simp only [Act.put, qA, qB, qC]
   refine ao 30 rfl ?_;refine ao 31 rfl ?_;refine ao 32 rfl ?_;refine ao 33 rfl ?_;refine fy (i := 34) (v := (.bool true)) (eY rfl) (by rfl) ?_ ?_
   focus
    intro w cq
   rotate_left;try simp only [Act.put, qA, qB, qC]
   refine fy (i := 35) (v := (.bool true)) (eY rfl) (by rfl) ?_ ?_
   focus
    intro w cq
   rotate_left;try simp only [Act.put, qA, qB, qC]
   refine fy (i := 36) (v := (.bool true)) (eY rfl) (by rfl) ?_ ?_
   focus
    intro w cq
   rotate_left;try simp only [Act.put, qA, qB, qC]
   refine ao 37 rfl ?_;refine acU (rs := [38]) (by kernel_rfl) (by simp) ?_;refine dz rfl (fun K hK => ?_) acR;go_simp;go_at_call 42
   refine (HMT.out _ (ag wr 1)).mono ?_;rintro e7 W7 ⟨p7, c7, rfl, cZ⟩;first
    | refine hK.out _ _ ?_ (fun hHeld => ?_)
    | (go_wp2_with fail; refine hK.out _ _ ?_ (fun hHeld => ?_))
   ·exact (eJ.out _ ((ag wr 1).trans cZ))
   clear hK K;try simp only [Act.put, qA, qB, qC]
   refine ao 39 rfl ?_;refine fy (i := 40) (v := (.bool true)) (eY rfl) (by rfl) ?_ ?_
   focus
    intro w cq
   rotate_left;try simp only [Act.put, qA, qB, qC]
   refine fy (i := 41) (v := (.bool true)) (eY rfl) (by rfl) ?_ ?_
   focus
    intro w cq
   rotate_left;try simp only [Act.put, qA, qB, qC]
   refine ao 42 rfl ?_;refine adO (by kernel_rfl) ?_ _;clear hHeld;go_wp2;go_ret;exact ⟨rfl, Am.out.trans (((ag wr 1).trans cZ).mono Am.out.size)⟩;all_goals
    (try dsimp only at cq)
    go_simp;try with_reducible rfl
end Go.Proofs.YtionbmlicmibgaaGreatDoor
