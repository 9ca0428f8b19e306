import Derived.Test.YtcifdlncbekohaaDoorSO8
namespace Go.Proofs.YtcifdlncbekohaaDoor
open Go.ChangeShapes Go.WideShapes Go.ChangeAt Go.RowKit
set_option linter.unusedVariables false
set_option linter.unusedSimpArgs false

theorem sinfo {i? : Option TypeInfo} {z : Value} {s b : Nat} (h : i?.map (fun i => (i.zero, i.size, i.bytes)) = some (some z, s, b)) : ∃ i, i? = some i ∧ i.zero = some z ∧ i.size = s ∧ i.bytes = b := by
  cases i? with
  | none => cases h
  | some i =>
    simp at h
    exact ⟨i, rfl, h.1, h.2.1, h.2.2⟩
theorem infoSE : (Tryd.prog.info? 36).map (fun i => (i.zero, i.size, i.bytes)) = some (some (.agg #[.int .u64 0, .int .i64 0, .int .u64 0, .int .i64 0, .int .i64 0, .int .i64 0]), 6, 48) := by kernel_rfl
/-- events that lie somewhere -/
def SIn (W : World) (p : Option Addr) (m : Nat) (X : Nat → Se) : Prop := m = 0 ∨ ∃ b o, p = some ⟨b, o, none⟩ ∧ b < W.heap.size ∧ ∀ j, j < m * 6 → W.cell? ⟨b, o + j, none⟩ = some (seF X j)
theorem SIn.below {W W' : World} {p : Option Addr} {m : Nat} {X : Nat → Se} (h : SIn W p m X) (hb : Below W.heap.size W W') : SIn W' p m X := by
  rcases h with h | ⟨b, o, h1, h2, h3⟩
  · exact .inl h
  · exact .inr ⟨b, o, h1, Nat.lt_of_lt_of_le h2 hb.size, fun j hj => (cell_below (a := ⟨b, o + j, none⟩) hb h2).trans (h3 j hj)⟩
theorem seF_one (X : Nat → Se) (j : Nat) : (seF X j).oneCell' = true := by
  unfold seF seC seL
  have : j % 6 = 0 ∨ j % 6 = 1 ∨ j % 6 = 2 ∨ j % 6 = 3 ∨ j % 6 = 4 ∨ j % 6 = 5 := by omega
  rcases this with h | h | h | h | h | h <;> rw [h] <;> rfl
set_option maxRecDepth 100000 in
set_option maxHeartbeats 2000000 in
theorem sorted_any (p : Option Addr) (n cp : Nat) (X : Nat → Se) (hn : n ≤ 2932031007402) (w : World) (hsrc : SIn w p n X) : Calls Tryd.prog 31 #[.slice p n cp, .func (.func 30) #[] #[]] w fun e w' => ∃ g d, e = .returned (.slice (some ⟨g, 0, none⟩) n n) ∧ SRow w' w.heap.size g n n d ∧ Stb klt 0 n X d ∧ Srt klt 0 n d ∧ Below w.heap.size w w' := by
  obtain ⟨i6, hi6, ha6, hb6, hc6⟩ := sinfo infoSE
  have hsz : (Tryd.prog.info? 36).map (·.size) = some 6 := by simp [hi6, hb6]
  have HS : Hid (SIn w p n X) := hsrc
  clear hsrc
  go_enter Tryd.func31, Tryd.ntmps31
  go_wp2_with (at_make; refine wpList_make_full _ rfl (.tmp 7) (.tmp 7) 24 rfl w.heap.size 36 i6 _ 6 Tryd.underlying24 hi6 ha6 hb6 .i64 .i64 n n n rfl rfl rfl rfl ?c1 ?c2 ?c3 ?_)
  case c1 => rw [hc6]; omega
  case c2 => unfold maxLen; omega
  case c3 => exact Nat.le_refl _
  intro w1 hown hgrow
  have hb1 : Below w.heap.size w w1 := (Below.refl _ _).grown hgrow (Nat.le_refl _) (by simp)
  have hO := own_of_row hown
  have hs2 : n = 0 ∨ ∃ ad, p = some ad ∧ ∀ j, j < n * 6 → w1.cell? (ad.add j) = some (seF X j) := by
    rcases HS.out with h | ⟨b, o, hp, hb, hc⟩
    · exact .inl h
    · exact .inr ⟨_, hp, fun j hj => by rw [addr_add0]; exact (cell_below (a := ⟨b, o + j, none⟩) hb1 hb).trans (hc j hj)⟩
  have HB1 : Hid (Below w.heap.size w w1) := hb1
  clear hown hgrow hb1
  go_wp2_with (refine wpList_copy_head rfl (.tmp 9) (.tmp 10) 24 24 rfl 36 6 Tryd.underlying24 hsz w.heap.size w.heap.size n n n cp p rfl rfl (Nat.le_refl _) _ (seF X) hO (fun j _ => seF_one X j) hs2 w.heap.size w HB1.out (Nat.le_refl _) ?_; intro w2 hO2 hB2)
  have hO3 : SRow w2 w.heap.size w.heap.size n n X := hO2.out.congr fun j hj => by rw [if_pos hj]
  have HSO := sortS_any hn w2 hO3
  have HB2 : Hid (Below w.heap.size w w2) := hB2
  clear hO2 hO3 hB2 hO hs2
  go_wp2_with (go_at_call 42; (with_reducible refine HSO.mono ?_); rintro e9 w3 ⟨rfl, d, h5, h6, h7, h8⟩; have H3 : Hid (SRow w3 w.heap.size w.heap.size n n d ∧ Stb klt 0 n X d ∧ Srt klt 0 n d ∧ Kp w.heap.size w2 w3) := ⟨h5, h6, h7, h8⟩; clear h5 h6 h7 h8)
  go_ret
  exact ⟨_, d, rfl, H3.out.1, H3.out.2.1, H3.out.2.2.1, HB2.out.trans (H3.out.2.2.2.toBelow HB2.out.size (Nat.le_refl _))⟩
set_option maxRecDepth 100000 in
theorem order_any (p : Option Addr) (n cp : Nat) (X : Nat → Se) (hn : n ≤ 2932031007402) (w : World) (hsrc : SIn w p n X) : Calls Tryd.prog 16 #[.slice p n cp] w fun e w' => ∃ g d, e = .returned (.slice (some ⟨g, 0, none⟩) n n) ∧ SRow w' w.heap.size g n n d ∧ Stb klt 0 n X d ∧ Srt klt 0 n d ∧ Below w.heap.size w w' := by
  have HS := sorted_any p n cp X hn w hsrc
  clear hsrc
  go_enter Tryd.func16, Tryd.ntmps16
  go_wp2_with (go_at_call 31; (with_reducible refine HS.mono ?_); rintro e9 w3 ⟨g, d, rfl, h5⟩; have H3 : Hid (SRow w3 w.heap.size g n n d ∧ Stb klt 0 n X d ∧ Srt klt 0 n d ∧ Below w.heap.size w w3) := h5; clear h5)
  go_ret
  exact ⟨g, d, rfl, H3.out⟩
end Go.Proofs.YtcifdlncbekohaaDoor
