import Derived.Test.YtcifdlncbekohaaDoorParsePure
import Derived.Lib.AtoiErrMem
import Derived.Deep.Draws
namespace Go.Proofs.YtcifdlncbekohaaDoor
open Go.ChangeShapes Go.WideShapes Go.ChangeAt Go.RowKit

/-- what the library's variables hold: what the ways that Parse leans on want of a world -/
structure Gr (w : World) : Prop where
  syn : ∃ tp p, w.var? Tryd.prog "strconv.ErrSyntax" = some #[.iface tp p]
  ran : ∃ tp p, w.var? Tryd.prog "strconv.ErrRange" = some #[.iface tp p]
  max : ∃ m, w.cell? ⟨laysCut_ren.g 1, 0, none⟩ = some (.int .i64 m)
  tab : Lib.TabIs Tryd.prog w "internal/strconv.uint64pow10" .u64 Lib.pow10Tab

theorem var_keep {w w' : World} {n : String} {cs : Array Value} (h : w.var? Tryd.prog n = some cs) (hb : Below w.heap.size w w') : w'.var? Tryd.prog n = some cs := by
  unfold World.var? at h ⊢
  cases hg : Tryd.prog.globalNamed n with
  | none => simp [hg] at h
  | some g =>
    simp only [hg, Option.bind_some] at h ⊢
    have hlt : g < w.heap.size := by
      cases hh : w.heap[g]? with
      | none => simp [hh] at h
      | some o => exact (Array.getElem?_eq_some_iff.1 hh).1
    rw [hb.block g hlt]
    exact h

theorem cell_lt {w : World} {a : Addr} {v : Value} (h : w.cell? a = some v) : a.block < w.heap.size := by
  cases hh : w.heap[a.block]? with
  | none => unfold World.cell? at h; simp [hh] at h
  | some o => exact (Array.getElem?_eq_some_iff.1 hh).1

theorem Gr.keep {w w' : World} (h : Gr w) (hb : Below w.heap.size w w') : Gr w' := by
  obtain ⟨⟨t1, p1, h1⟩, ⟨t2, p2, h2⟩, ⟨m, h3⟩, h4⟩ := h
  exact ⟨⟨t1, p1, var_keep h1 hb⟩, ⟨t2, p2, var_keep h2 hb⟩, ⟨m, by rw [hb.cell (cell_lt h3)]; exact h3⟩, Lib.tabBelow_of_tabIs h4 w' hb⟩

theorem pU_any (l : List UInt8) (hl : l.length ≤ 4294967280) (w : World) (g : Gr w) :
    Calls Tryd.prog 26 #[.string ⟨l.toArray⟩] w fun e w' => e = .returned (.int .u64 (pU l)) ∧ Below w.heap.size w w' := by
  have hsz : (⟨l.toArray⟩ : ByteArray).size ≤ 4294967280 := by simpa [ByteArray.size] using hl
  have hin : Calls Tryd.prog 38 #[.string ⟨l.toArray⟩, .int .i64 10, .int .i64 64] w fun e w' => ∃ x, e = .returned (.tuple #[.int .u64 (pU l), x]) ∧ Below w.heap.size w w' := by
    obtain ⟨⟨t1, p1, h1⟩, ⟨t2, p2, h2⟩, _, _⟩ := g
    unfold pU
    cases h : Lib.parseUintB 64 l with
    | ok u =>
      refine (Any.strconv_ParseUint_10_at64_ok laysPU ⟨l.toArray⟩ (by omega) u (by simpa using h) w).mono ?_
      rintro e w' ⟨rfl, rfl | rfl⟩
      · exact ⟨_, rfl, Below.refl _ _⟩
      · exact ⟨_, rfl, Lib.bytesWorld_below _ _ _⟩
    | «syntax» =>
      refine (Any.strconv_ParseUint_10_at64_syntax_var laysPU ⟨l.toArray⟩ (by omega) (by simpa using h) t1 p1 w h1).mono ?_
      rintro e w' ⟨N, rfl, _, _, hb⟩
      exact ⟨_, rfl, hb⟩
    | range =>
      refine (Any.strconv_ParseUint_10_at64_range_var laysPU ⟨l.toArray⟩ (by omega) (by simpa using h) t2 p2 w h2).mono ?_
      rintro e w' ⟨N, rfl, _, _, hb⟩
      exact ⟨_, rfl, hb⟩
  have HI : Hid (Calls Tryd.prog 38 #[.string ⟨l.toArray⟩, .int .i64 10, .int .i64 64] w fun e w' => ∃ x, e = .returned (.tuple #[.int .u64 (pU l), x]) ∧ Below w.heap.size w w') := hin
  clear hin g hsz
  go_enter Tryd.func26, Tryd.ntmps26
  go_wp2_with fail
  refine HI.out.mono ?_
  rintro e w' ⟨v', rfl, h2⟩
  go_wp2
  go_ret
  exact ⟨rfl, h2⟩

theorem pI_any (l : List UInt8) (hl : l.length ≤ 4294967280) (w : World) (g : Gr w) :
    Calls Tryd.prog 27 #[.string ⟨l.toArray⟩] w fun e w' => e = .returned (.int .i64 (pI l)) ∧ Below w.heap.size w w' := by
  have hsz : (⟨l.toArray⟩ : ByteArray).size ≤ 4294967280 := by simpa [ByteArray.size] using hl
  have hin : Calls Tryd.prog 39 #[.string ⟨l.toArray⟩, .int .i64 10, .int .i64 64] w fun e w' => ∃ x, e = .returned (.tuple #[.int .i64 (pI l), x]) ∧ Below w.heap.size w w' := by
    obtain ⟨⟨t1, p1, h1⟩, ⟨t2, p2, h2⟩, _, _⟩ := g
    unfold pI
    cases h : Lib.parseIntB 64 l with
    | ok u =>
      refine (Any.strconv_ParseInt_10_at64_ok laysPI ⟨l.toArray⟩ (by omega) u (by simpa using h) w).mono ?_
      rintro e w' ⟨rfl, rfl | ⟨t, rfl⟩⟩
      · exact ⟨_, rfl, Below.refl _ _⟩
      · exact ⟨_, rfl, Lib.bytesWorld_below _ _ _⟩
    | «syntax» =>
      refine (Any.strconv_ParseInt_10_at64_syntax_var laysPI ⟨l.toArray⟩ (by omega) (by simpa using h) t1 p1 w h1).mono ?_
      rintro e w' ⟨N, rfl, _, _, hb⟩
      exact ⟨_, rfl, hb⟩
    | range =>
      refine (Any.strconv_ParseInt_10_at64_range_var laysPI ⟨l.toArray⟩ (by omega) (by simpa using h) t2 p2 w h2).mono ?_
      rintro e w' ⟨N, rfl, _, _, hb⟩
      exact ⟨_, rfl, hb⟩
  have HI : Hid (Calls Tryd.prog 39 #[.string ⟨l.toArray⟩, .int .i64 10, .int .i64 64] w fun e w' => ∃ x, e = .returned (.tuple #[.int .i64 (pI l), x]) ∧ Below w.heap.size w w') := hin
  clear hin g hsz
  go_enter Tryd.func27, Tryd.ntmps27
  go_wp2_with fail
  refine HI.out.mono ?_
  rintro e w' ⟨v', rfl, h2⟩
  go_wp2
  go_ret
  exact ⟨rfl, h2⟩

theorem cut_any (l : List UInt8) (m : UInt8) (hl : l.length ≤ 4294967280) (w : World) (g : Gr w) :
    Calls Tryd.prog 25 #[.string ⟨l.toArray⟩, .string ⟨#[m]⟩] w fun e w' => e = .returned (.tuple #[.string ⟨(Lib.cut l [m]).1.toArray⟩, .string ⟨(Lib.cut l [m]).2.1.toArray⟩, .bool (Lib.cut l [m]).2.2]) ∧ Below w.heap.size w w' := by
  obtain ⟨M, hM⟩ := g.max
  have hsz : (⟨l.toArray⟩ : ByteArray).size ≤ 4294967280 := by simpa [ByteArray.size] using hl
  refine (Any.strings_Cut { laysCut with } ⟨l.toArray⟩ ⟨#[m]⟩ M w (by omega) hM).mono ?_
  rintro e w' ⟨rfl, n, rfl⟩
  refine ⟨?_, rfl, rfl, rfl, Nat.le_refl _, fun _ _ => rfl⟩
  simp

theorem cut_len1 (l sep : List UInt8) : (Lib.cut l sep).1.length ≤ l.length := by
  unfold Lib.cut
  split
  · simp [List.length_take]; omega
  · exact Nat.le_refl _
theorem cut_len2 (l sep : List UInt8) : (Lib.cut l sep).2.1.length ≤ l.length := by
  unfold Lib.cut
  split
  · simp [List.length_drop]
  · simp

theorem parseM_le (M : Nat) : ∀ (l : List UInt8) (acc u : Nat), acc ≤ M → Lib.parseUintM M acc l = .ok u → u ≤ M
  | [], acc, u, ha, h => by
    simp [Lib.parseUintM] at h
    omega
  | c :: r, acc, u, ha, h => by
    unfold Lib.parseUintM at h
    split at h
    · split at h
      · cases h
      · split at h
        · cases h
        · exact parseM_le M r _ u (by omega) h
    · cases h
theorem parseB_le (l : List UInt8) (u : Nat) (h : Lib.parseUintB 64 l = .ok u) : u ≤ 18446744073709551615 := by
  unfold Lib.parseUintB at h
  split at h
  · cases h
  · exact parseM_le 18446744073709551615 l 0 u (by omega) h
theorem pU_lt (l : List UInt8) : pU l < 18446744073709551616 := by
  unfold pU
  cases h : Lib.parseUintB 64 l with
  | ok u => have := parseB_le l u h; show u < _; omega
  | «syntax» => decide
  | range => decide
theorem pI_in (l : List UInt8) : -9223372036854775808 ≤ pI l ∧ pI l ≤ 9223372036854775807 := by
  unfold pI
  cases h : Lib.parseIntB 64 l with
  | «syntax» => show -9223372036854775808 ≤ (0 : Int) ∧ (0 : Int) ≤ 9223372036854775807; decide
  | range =>
    show _ ≤ Lib.intSat 64 l ∧ Lib.intSat 64 l ≤ _
    unfold Lib.intSat
    split <;> decide
  | ok v =>
    show _ ≤ v ∧ v ≤ _
    unfold Lib.parseIntB at h
    cases l with
    | nil => cases h
    | cons c r =>
      simp only at h
      generalize hx : Lib.parseUintB 64 (if c.toNat = 43 ∨ c.toNat = 45 then r else c :: r) = x at h
      cases x with
      | «syntax» => cases h
      | range => cases h
      | ok u =>
        simp only at h
        split at h
        · cases h
        · split at h
          · cases h
          · injection h with h
            rename_i a b
            have e63 : (2 : Nat) ^ (64 - 1) = 9223372036854775808 := by decide
            rw [e63] at a b
            split at h <;> omega
end Go.Proofs.YtcifdlncbekohaaDoor
