import Derived.Test.YtcibmbcfpecgpaaA6
import Derived.Test.YtcibmbcfpecgpaaBytes2
namespace Go.Proofs.Ytcibmbcfpecgpaa
open Go.ChangeShapes Go.WideShapes Go.ChangeAt Go.RowKit
set_option linter.unusedVariables false

theorem chain {a b c : World} (h1 : Below a.heap.size a b) (h2 : Below b.heap.size b c) : Below a.heap.size a c := h1.trans (h2.mono h1.size)
theorem Own.low {W : World} {b b' : Nat} {t : TypeId} {s m : Nat} {v : Value} {F : Nat → Value} (h : Own W b t s v m F) (hb : b' ≤ b) : Own W b' t s v m F := by
  refine ⟨h.1, ?_⟩
  rcases h.2 with h | ⟨g, cap, cur, h1, h2, h3⟩
  · exact .inl h
  · exact .inr ⟨g, cap, cur, h1, Nat.le_trans hb h2, h3⟩
theorem own_form {W : World} {b : Nat} {t : TypeId} {s m : Nat} {v : Value} {F : Nat → Value} (h : Own W b t s v m F) : ∃ p c, v = .slice p m c := by
  rcases h.form with ⟨h3, h4⟩ | ⟨g, c, h3, _⟩
  · exact ⟨none, 0, by rw [h3, h4]⟩
  · exact ⟨_, _, h3⟩
def V3 (a b c : Value) : Nat → Value
  | 0 => a
  | 1 => b
  | _ => c
def M3 (a b : Nat) : Nat → Nat
  | 1 => b
  | _ => a
def E3 (A B : Nat → Nat → Int) : Nat → Nat → Value
  | 1 => evF B
  | _ => evF A
/-- three lists that were made one behind the other are apart -/
theorem lists3 {W2 W3 W4 W : World} {base b1 : Nat} {vl vo vk : Value} {m : Nat} {E EO : Nat → Nat → Int} (hl : Own W2 b1 26 6 vl m (evF E)) (ho : Own W3 (W2.heap.size + 1) 26 6 vo 2 (evF EO)) (hk : Own W4 (W3.heap.size + 1) 26 6 vk m (evF E))
    (h2 : Below W2.heap.size W2 W3) (h3 : Below W3.heap.size W3 W4) (h4 : Below W4.heap.size W4 W) (hb1 : base ≤ b1) (hb2 : base ≤ W2.heap.size) : Lists W base 26 6 3 (V3 vl vo vk) (M3 m 2) (E3 E EO) := by
  have s2 := h2.size
  refine ⟨fun k hk' => ?_, fun i j hi hj hij => ?_⟩
  · match k, hk' with
    | 0, _ => exact (hl.more (chain (chain h2 h3) h4)).low hb1
    | 1, _ => exact (ho.more (chain h3 h4)).low (by omega)
    | 2, _ => exact (hk.more h4).low (by omega)
  · have n01 : ∀ g, vl.ownBlock = some g → vo.ownBlock = some g → False := fun g e1 e2 => by
      have := (hl.kind e1).2.1
      have := (ho.kind e2).1
      omega
    have n02 : ∀ g, vl.ownBlock = some g → vk.ownBlock = some g → False := fun g e1 e2 => by
      have := (hl.kind e1).2.1
      have := (hk.kind e2).1
      omega
    have n12 : ∀ g, vo.ownBlock = some g → vk.ownBlock = some g → False := fun g e1 e2 => by
      have := (ho.kind e1).2.1
      have := (hk.kind e2).1
      omega
    have nn : ∀ {a b : Option Nat}, (∀ g, a = some g → b = some g → False) → a = none ∨ a ≠ b := fun {a b} h => by
      cases a with
      | none => exact .inl rfl
      | some g => exact .inr fun e => h g rfl e.symm
    match i, j, hi, hj with
    | 0, 0, _, _ => exact absurd rfl hij
    | 0, 1, _, _ => exact nn n01
    | 0, 2, _, _ => exact nn n02
    | 1, 0, _, _ => exact nn fun g e1 e2 => n01 g e2 e1
    | 1, 1, _, _ => exact absurd rfl hij
    | 1, 2, _, _ => exact nn n12
    | 2, 0, _, _ => exact nn fun g e1 e2 => n02 g e2 e1
    | 2, 1, _, _ => exact nn fun g e1 e2 => n12 g e2 e1
    | 2, 2, _, _ => exact absurd rfl hij
def lit13 : Nat → Int := fun i => ([2, 0, 0, 0, 0, 0, 0, 1, 0, 0, 0, 0, 0] : List Int).getD i 0
theorem lit_ok : (unAll lit13 13).2.2 = 0 := by kernel_rfl
theorem lit_len : (unAll lit13 13).1.length = 12 := by kernel_rfl
theorem lit_bd : ∀ i, i < 13 → 0 ≤ lit13 i ∧ lit13 i ≤ 255 := by decide
theorem lit_any (w : World) : Calls Try.prog 14 #[.slice (some ⟨w.heap.size, 0, none⟩) 13 13] (w.alloc (.cells #[.int .u8 2, .int .u8 0, .int .u8 0, .int .u8 0, .int .u8 0, .int .u8 0, .int .u8 0, .int .u8 1, .int .u8 0, .int .u8 0, .int .u8 0, .int .u8 0, .int .u8 0] 5)) fun r w' => ∃ g c n e E, r = .returned (.tuple #[.slice (some ⟨g, 0, none⟩) 2 c, .int .i64 n, .int .i64 e]) ∧ Own w' (w.heap.size + 1) 26 6 (.slice (some ⟨g, 0, none⟩) 2 c) 2 (evF E) ∧ Below w.heap.size w w' := by
  have hc : ∀ i, i < 13 → (w.alloc (.cells #[.int .u8 2, .int .u8 0, .int .u8 0, .int .u8 0, .int .u8 0, .int .u8 0, .int .u8 0, .int .u8 1, .int .u8 0, .int .u8 0, .int .u8 0, .int .u8 0, .int .u8 0] 5)).cell? ⟨w.heap.size, 0 + i, none⟩ = some (.int .u8 (lit13 i)) := fun i hi => by
    unfold World.cell?
    rw [World.alloc_heap_new]
    match i, hi with
    | 0, _ => rfl
    | 1, _ => rfl
    | 2, _ => rfl
    | 3, _ => rfl
    | 4, _ => rfl
    | 5, _ => rfl
    | 6, _ => rfl
    | 7, _ => rfl
    | 8, _ => rfl
    | 9, _ => rfl
    | 10, _ => rfl
    | 11, _ => rfl
    | 12, _ => rfl
  refine (unpackAll_any w.heap.size 0 13 13 lit13 _ (by omega) (by simp) hc lit_bd).mono ?_
  rintro r w' ⟨vl, n, e, rfl, hr, hb⟩
  obtain ⟨cU, E, nU, eU, _, hN⟩ := allRes_norm (B := lit13) (L := 13) lit_bd
  obtain ⟨_, _, ho⟩ := hN _ _ _ _ _ hr
  have hc2 : cU = 2 := by
    unfold AllRes at hr
    rw [if_pos lit_ok] at hr
    obtain ⟨⟨cnt, h1⟩, _⟩ := hr
    have h2 := h1.1
    rw [lit_len] at h2
    rcases ho.form with ⟨h3, h4⟩ | ⟨g, c, h3, _⟩
    · rcases h1.2 with ⟨h5, h6⟩ | ⟨g', cap, cur, h5, _⟩
      · omega
      · rw [h3] at h5
        cases h5
    · rcases h1.2 with ⟨h5, h6⟩ | ⟨g', cap, cur, h5, _⟩
      · omega
      · rw [h3] at h5
        injection h5 with _ h5 _
        omega
  subst hc2
  rw [World.size_alloc] at hb ho
  rcases ho.form with ⟨h3, h4⟩ | ⟨g, c, rfl, _⟩
  · omega
  · refine ⟨g, c, n, e, E, rfl, ?_, ((Below.refl _ w).alloc (Nat.le_refl _) _).trans (hb.mono (Nat.le_succ _))⟩
    rcases ho.2 with h | ⟨g', cap, cur, h1, h2, h3⟩
    · exact ⟨ho.1, .inl h⟩
    · exact ⟨ho.1, .inr ⟨g', cap, cur, h1, Nat.le_trans (Nat.le_succ _) h2, h3⟩⟩

set_option maxRecDepth 100000 in
set_option maxHeartbeats 4000000 in
theorem law_unpacksAll (sl : Option Addr) (L cap : Nat) (B : Nat → Int) (w : World) (hL : L ≤ 1048576) (h : BytesAt w sl L B) :
    Calls Try.prog 4 #[.slice sl L cap] w fun r w' => r = .returned (.bool true) ∧ Below w.heap.size w w' := by
  obtain ⟨cU, E, nU, eU, hcU, hN⟩ := allRes_norm (B := B) (L := L) h.2
  have HU : Hid (∀ (W : World) (g cp : Nat), g < W.heap.size → (∀ i, i < L → W.cell? ⟨g, 0 + i, none⟩ = some (.int .u8 (B i))) → Calls Try.prog 14 #[.slice (some ⟨g, 0, none⟩) L cp] W fun r w' => ∃ vl, r = .returned (.tuple #[vl, .int .i64 nU, .int .i64 eU]) ∧ Own w' (W.heap.size + 1) 26 6 vl cU (evF E) ∧ Below W.heap.size W w') := fun W g cp hg hc => by
    refine (unpackAll_any g 0 L cp B W (by omega) hg hc h.2).mono ?_
    rintro r w' ⟨vl, n, e, rfl, hr, hb⟩
    obtain ⟨rfl, rfl, ho⟩ := hN _ _ _ _ _ hr
    exact ⟨vl, rfl, ho, hb⟩
  have HR : Hid (∀ W, BytesAt W sl L B → Calls Try.prog 15 #[.slice sl L cap] W fun r w' => ∃ vl, r = .returned (.tuple #[vl, .int .i64 nU, .int .i64 eU]) ∧ Own w' W.heap.size 26 6 vl cU (evF E) ∧ Below W.heap.size W w') := fun W hW => by
    refine (refUnpackAll_any sl L cap B W (by omega) hW).mono ?_
    rintro r w' ⟨vl, n, e, rfl, hr, hb⟩
    obtain ⟨rfl, rfl, ho⟩ := hN _ _ _ _ _ hr
    exact ⟨vl, rfl, ho, hb⟩
  clear hN
  go_enter Try.func4, Try.ntmps4
  go_wp2_with fail
  refine (roomyBytes_any sl L cap B _ (by omega) h).mono ?_
  rintro x w1 ⟨g, cp, rfl, hown, hb1⟩
  have hB1 := bytesAt_own hown (by omega) h.2
  have hgl : g < w1.heap.size := (hown.lt g rfl).2
  have hcells : ∀ W, Below w1.heap.size w1 W → ∀ i, i < L → W.cell? ⟨g, 0 + i, none⟩ = some (.int .u8 (B i)) := by
    intro W hW i hi
    obtain ⟨hx | ⟨b1, o1, he, _, k1⟩, _⟩ := hB1.below hW
    · omega
    · simp at he
      obtain ⟨rfl, rfl⟩ := he
      exact k1 i hi
  have HCL : Hid (∀ W, Below w1.heap.size w1 W → ∀ i, i < L → W.cell? ⟨g, 0 + i, none⟩ = some (.int .u8 (B i))) := hcells
  have HOW : Hid (w1.ownsRow w.heap.size 5 1 (.slice (some ⟨g, 0, none⟩) (L + 2) cp) (L + 2) (bytesL B L ++ [.int .u8 165, .int .u8 90])) := hown
  have HBY : Hid (BytesAt w sl L B) := h
  have HB1 : Hid (Below w.heap.size w w1) := hb1
  clear hcells hB1 hown h hb1
  go_wp2_with fail
  refine (HU.out w1 g cp hgl (HCL.out w1 (Below.refl _ _))).mono ?_
  rintro x w2 ⟨vl, rfl, hoL, hb2⟩
  obtain ⟨pl, cl, rfl⟩ := own_form hoL
  have HL : Hid (Own w2 (w1.heap.size + 1) 26 6 (.slice pl cU cl) cU (evF E)) := hoL
  have HB2 : Hid (Below w1.heap.size w1 w2) := hb2
  clear hoL hb2
  go_wp2_with fail
  refine (lit_any w2).mono ?_
  rintro x w3 ⟨gO, cO, nO, eO, EO, rfl, hoO, hb3⟩
  have HO : Hid (Own w3 (w2.heap.size + 1) 26 6 (.slice (some ⟨gO, 0, none⟩) 2 cO) 2 (evF EO)) := hoO
  have HB3 : Hid (Below w2.heap.size w2 w3) := hb3
  clear hoO hb3
  go_wp2_with fail
  have hg3 : g < w3.heap.size := Nat.lt_of_lt_of_le hgl (Nat.le_trans HB2.out.size HB3.out.size)
  refine (HU.out w3 g cp hg3 (HCL.out w3 (HB2.out.trans (HB3.out.mono HB2.out.size)))).mono ?_
  rintro x w4 ⟨vk, rfl, hoK, hb4⟩
  obtain ⟨pk, ck, rfl⟩ := own_form hoK
  have HK : Hid (Own w4 (w3.heap.size + 1) 26 6 (.slice pk cU ck) cU (evF E)) := hoK
  have HB4 : Hid (Below w3.heap.size w3 w4) := hb4
  clear hoK hb4
  go_wp2_with fail
  refine (HR.out w4 (HBY.out.below (chain (chain (chain HB1.out HB2.out) HB3.out) HB4.out))).mono ?_
  rintro x w5 ⟨vw, rfl, hoW, hb5⟩
  have HW : Hid (Own w5 w4.heap.size 26 6 vw cU (evF E)) := hoW
  have HB5 : Hid (Below w4.heap.size w4 w5) := hb5
  clear hoW hb5
  have HSE : Hid (∀ (v : Value) (b : Nat) (W : World), Own W b 26 6 v cU (evF E) → Below w5.heap.size w5 W → Calls Try.prog 16 #[v, vw] W fun e w' => e = .returned (.bool true) ∧ Below W.heap.size W w') := fun v b W h1 h2 => sameEvs_yes v vw b w4.heap.size cU E (by omega) W h1 (HW.out.more h2)
  go_wp2_with fail
  refine (HSE.out (.slice pl cU cl) _ w5 (HL.out.more (chain (chain HB3.out HB4.out) HB5.out)) (Below.refl _ _)).mono ?_
  rintro x w6 ⟨rfl, hb6⟩
  have HB6 : Hid (Below w5.heap.size w5 w6) := hb6
  clear hb6
  go_wp2_with fail
  refine (HSE.out (.slice pk cU ck) _ w6 (HK.out.more (chain HB5.out HB6.out)) HB6.out).mono ?_
  rintro x w7 ⟨rfl, hb7⟩
  have HB7 : Hid (Below w4.heap.size w4 w7) := chain (chain HB5.out HB6.out) hb7
  have HA7 : Hid (Below w1.heap.size w1 w7) := chain (chain (chain HB2.out HB3.out) HB4.out) HB7.out
  clear hb7
  go_wp2_with fail
  refine (marked_any sl L cap w.heap.size g cp B w7 (by omega) (HBY.out.below (chain HB1.out HA7.out)) (own_below HOW.out HA7.out)).mono ?_
  rintro x w8 ⟨rfl, hb8⟩
  have HB8 : Hid (Below w4.heap.size w4 w8) := chain HB7.out hb8
  have HA8 : Hid (Below w1.heap.size w1 w8) := chain HA7.out hb8
  clear hb8
  go_wp2_with fail
  have hb9 : Below w8.heap.size w8 (w8.alloc (.cells #[.slice pl cU cl, .slice (some ⟨gO, 0, none⟩) 2 cO, .slice pk cU ck] 27)) := (Below.refl _ w8).alloc (Nat.le_refl _) _
  have hls := lists3 (base := w1.heap.size) HL.out HO.out HK.out HB3.out HB4.out (chain HB8.out hb9) (Nat.le_succ _) HB2.out.size
  have hs1 : w1.heap.size ≤ (w8.alloc (.cells #[.slice pl cU cl, .slice (some ⟨gO, 0, none⟩) 2 cO, .slice pk cU ck] 27)).heap.size := Nat.le_trans HA8.out.size hb9.size
  refine (apartEv 3 3 w8.heap.size w1.heap.size (by decide) (V3 (.slice pl cU cl) (.slice (some ⟨gO, 0, none⟩) 2 cO) (.slice pk cU ck)) (M3 cU 2) (E3 E EO) (fun k hk => by unfold M3; split <;> omega) (w8.alloc (.cells #[.slice pl cU cl, .slice (some ⟨gO, 0, none⟩) 2 cO, .slice pk cU ck] 27)) (by simp) (fun k hk => by unfold World.cell?; rw [World.alloc_heap_new]; match k, hk with | 0, _ => rfl | 1, _ => rfl | 2, _ => rfl) ⟨_, _, World.alloc_heap_new _ _⟩ hls hs1).mono ?_
  rintro x w9 ⟨rfl, hb10⟩
  have HA9 : Hid (Below w1.heap.size w1 w9) := (chain HA8.out hb9).trans hb10
  clear hb9 hb10 hls hs1
  go_wp2_with fail
  refine (marked_any sl L cap w.heap.size g cp B w9 (by omega) (HBY.out.below (chain HB1.out HA9.out)) (own_below HOW.out HA9.out)).mono ?_
  rintro x w10 ⟨rfl, hb11⟩
  have HF : Hid (Below w.heap.size w w10) := chain (chain HB1.out HA9.out) hb11
  clear hb11
  go_wp2_with fail
  go_ret
  exact ⟨rfl, HF.out⟩
end Go.Proofs.Ytcibmbcfpecgpaa
