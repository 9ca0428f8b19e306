import Derived.Test.YtllhbggipbefmacDShLaw
namespace Go.Proofs.Ytllhbggipbefmac
open Go.ChangeShapes Go.WideShapes Go.ChangeAt Go.RowKit
set_option linter.unusedVariables false

theorem sh_errD (s n : Int) (h : n < 0 ∨ 4096 < n) (w : World) :
    Calls Try.prog 17 #[.int .u64 s, .int .i64 n] w fun e w' => ∃ ad, e = .returned (.tuple #[.slice ad 0 0, .int .u64 s, .int .i64 22]) ∧ LV w' ad w.heap.size 0 0 (fun _ => 0) ∧ Below w.heap.size w w' := by
  refine (shuffle_err s n h w).mono ?_
  rintro e w' ⟨rfl, rfl⟩
  exact ⟨none, rfl, Or.inl ⟨rfl, rfl, rfl⟩, Below.refl _ _⟩
theorem sh_errR (s n : Int) (h : n < 0 ∨ 4096 < n) (w : World) :
    Calls Try.prog 18 #[.int .u64 s, .int .i64 n] w fun e w' => ∃ ad cap, e = .returned (.tuple #[.slice ad 0 cap, .int .u64 s, .int .i64 22]) ∧ LV w' ad w.heap.size 0 cap (fun _ => 0) ∧ Below w.heap.size w w' := by
  refine (rshuffle_err s n h w).mono ?_
  rintro e w' ⟨rfl, rfl⟩
  exact ⟨none, 0, rfl, Or.inl ⟨rfl, rfl, rfl⟩, Below.refl _ _⟩
theorem sh_okD (s : Int) (hs : 0 ≤ s ∧ s ≤ 18446744073709551615) (n : Nat) (hn : n ≤ 4096) (w : World) :
    Calls Try.prog 17 #[.int .u64 s, .int .i64 n] w fun e w' => ∃ ad, e = .returned (.tuple #[.slice ad n n, .int .u64 (U (shuf n (B s)).2), .int .i64 0]) ∧ LV w' ad w.heap.size n n (shuf n (B s)).1 ∧ Below w.heap.size w w' := by
  refine (shuffle_ok s hs n hn w).mono ?_
  rintro e w' ⟨rfl, hr, hb⟩
  exact ⟨some ⟨w.heap.size, 0, none⟩, rfl, LV.of_row hr _ (Nat.le_refl _), hb⟩
theorem law_shuffles (s n : Int) (hs : 0 ≤ s ∧ s ≤ 18446744073709551615) (w : World) :
    Calls Try.prog 6 #[.int .u64 s, .int .i64 n] w fun e w' => e = .returned (.bool true) ∧ Below w.heap.size w w' := by
  have h1 := wrap_rng (s + 1)
  by_cases h : n < 0 ∨ 4096 < n
  · exact shuffles_core s _ n _ _ _ _ _ 0 _ _ (by omega) rfl (fun w => sh_errD s n h w) (fun w => sh_errD _ n h w) (fun w => sh_errR s n h w) (fun w => sh_errR _ n h w) w
  · obtain ⟨m, rfl⟩ := Int.eq_ofNat_of_zero_le (show 0 ≤ n by omega)
    exact shuffles_core s _ m _ _ _ _ _ m _ _ (by omega) rfl (fun w => sh_okD s hs m (by omega) w) (fun w => sh_okD _ h1 m (by omega) w) (fun w => rshuffle_ok s hs m (by omega) w) (fun w => rshuffle_ok _ h1 m (by omega) w) w
end Go.Proofs.Ytllhbggipbefmac
