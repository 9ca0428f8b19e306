import Derived.Test.YtcibmbcfpecgpaaRows
import Derived.Test.YtcibmbcfpecgpaaA7
import Derived.ChangeOld
import Derived.SizedLaws
import Derived.WalkLawsBesides
namespace Go.Proofs.Ytcibmbcfpecgpaa
open Go.ChangeShapes Go.WideShapes Go.ChangeAt Go.RowKit
set_option linter.unusedVariables false
set_option maxRecDepth 100000

theorem view_bytes {H : Type} {enc : TypeId × Value → H} {W : World} {sl : Option Addr} {len cap : Nat} {d : DataW H} {p : List MemPlace}
    (h : DataW.Trod enc Try.prog W 0 (fun _ => true) true 29 (.slice sl len cap) d p) :
    ∃ B : Nat → Int, BytesAt W sl len B ∧ (len = 0 ∨ ∃ elems spare, d = .slice elems spare ∧ len ≤ elems.length) := by
  obtain ⟨fuel, hf⟩ := h
  rcases open_ints Try.underlying29 Try.underlying5 (by kernel_rfl) hf with ⟨hcs, _⟩ | ⟨x, l, c, zs, hcs, _, hl, hm, hz, hx, hcell, hwz⟩
  · simp [Value.cells] at hcs
    obtain ⟨_, rfl, _⟩ := hcs
    exact ⟨fun _ => 0, ⟨.inl rfl, fun i hi => by omega⟩, .inl rfl⟩
  · simp [Value.cells] at hcs
    obtain ⟨rfl, rfl, rfl⟩ := hcs
    simp only [if_true] at hz
    have bB : ∀ i, i < len → 0 ≤ zs.getD i 0 ∧ zs.getD i 0 ≤ 255 := by
      intro i hi
      have hi' : i < zs.length := by omega
      have := bounds_u8 (hwz _ (List.getElem_mem hi'))
      simpa [List.getD, hi'] using this
    refine ⟨fun i => zs.getD i 0, ⟨?_, bB⟩, ?_⟩
    · rcases Nat.eq_zero_or_pos len with z | z
      · exact .inl z
      · obtain ⟨b, off, spot⟩ := x
        have h0 := hcell 0 (by omega)
        have hspot : spot = none := by simpa [Addr.add] using World.cell?_spot h0
        subst hspot
        have hbl := World.block_lt_of_cell? _ _ h0
        exact .inr ⟨b, off, rfl, by simpa [Addr.add] using hbl, fun i hi => by simpa [addr_add] using hcell i (by omega)⟩
    · rcases Nat.eq_zero_or_pos len with z | z
      · exact .inl z
      · simp only [Prod.mk.injEq] at hx
        exact .inr ⟨_, _, hx.1, by simp [lits]; omega⟩

theorem bulk_pos {H : Type} (d : DataW H) : 1 ≤ Rows.uptoBulk d := by
  unfold Rows.uptoBulk
  split <;> omega
theorem bulk_len {H : Type} : ∀ l : List (DataW H), l.length ≤ Rows.uptoBulkAll l
  | [] => Nat.zero_le _
  | d :: r => by
    have := bulk_pos d
    have := bulk_len r
    simp only [List.length_cons, Rows.uptoBulkAll]
    omega
theorem view_bytesU {H : Type} {enc : TypeId × Value → H} {W : World} {base : Nat} {v : Value} {d : DataW H} {pl : List MemPlace}
    (hval : Value.okWide Try.prog W .any base 29 v) (h : DataW.Trod enc Try.prog W 0 (fun _ => true) true 29 v d pl) (hb : Rows.uptoBulk d ≤ 1048576) :
    ∃ (p : Option Addr) (n c : Nat) (B : Nat → Int), v = .slice p n c ∧ BytesAt W p n B ∧ n ≤ 1048576 := by
  obtain ⟨sl, len, cap, rfl⟩ := okWide_slice Try.underlying29 hval
  obtain ⟨B, h1, h2⟩ := view_bytes h
  refine ⟨sl, len, cap, B, rfl, h1, ?_⟩
  rcases h2 with rfl | ⟨elems, spare, rfl, h3⟩
  · omega
  · have h4 := bulk_len elems
    simp only [Rows.uptoBulk] at hb
    omega
theorem law_ua' (p : Option Addr) (n c : Nat) (X : Nat → Int) (hz : n ≤ 1048576) (w : World) (_ : True) (hy : BytesAt w p n X) :
    Calls Try.prog 4 #[.slice p n c] w fun e w' => e = .returned (.bool true) ∧ Below w.heap.size w w' := law_unpacksAll p n c X w hz hy
end Go.Proofs.Ytcibmbcfpecgpaa
