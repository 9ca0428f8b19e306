import Derived.Test.YtckhliilndfljaaDoorSP5
import Derived.Test.YtckhliilndfljaaDoorSPZ
namespace Go.Proofs.YtckhliilndfljaaDoor
open Go.ChangeShapes Go.WideShapes Go.ChangeAt Go.RowKit
set_option linter.unusedVariables false
set_option linter.unusedSimpArgs false

/-! ### strings.Builder and strings.Repeat, by their contracts -/
theorem laysBW : Lays.n166 Tryd.prog YtckhliilndfljaaDoor.laysRp_ren := { mixed := YtckhliilndfljaaDoor.laysRp.mixed, f166 := YtckhliilndfljaaDoor.laysRp.f166, f240 := YtckhliilndfljaaDoor.laysRp.f240, f276 := YtckhliilndfljaaDoor.laysRp.f276, t0 := YtckhliilndfljaaDoor.laysRp.t0, a0 := YtckhliilndfljaaDoor.laysRp.a0, z0 := YtckhliilndfljaaDoor.laysRp.z0, v0 := YtckhliilndfljaaDoor.laysRp.v0, t3 := YtckhliilndfljaaDoor.laysRp.t3, a3 := YtckhliilndfljaaDoor.laysRp.a3, z3 := YtckhliilndfljaaDoor.laysRp.z3, v3 := YtckhliilndfljaaDoor.laysRp.v3, t4 := YtckhliilndfljaaDoor.laysRp.t4, a4 := YtckhliilndfljaaDoor.laysRp.a4, z4 := YtckhliilndfljaaDoor.laysRp.z4, v4 := YtckhliilndfljaaDoor.laysRp.v4, t9 := YtckhliilndfljaaDoor.laysRp.t9, a9 := YtckhliilndfljaaDoor.laysRp.a9, z9 := YtckhliilndfljaaDoor.laysRp.z9, v9 := YtckhliilndfljaaDoor.laysRp.v9, t20 := YtckhliilndfljaaDoor.laysRp.t20, a20 := YtckhliilndfljaaDoor.laysRp.a20, z20 := YtckhliilndfljaaDoor.laysRp.z20, v20 := YtckhliilndfljaaDoor.laysRp.v20, t37 := YtckhliilndfljaaDoor.laysRp.t37, a37 := YtckhliilndfljaaDoor.laysRp.a37, z37 := YtckhliilndfljaaDoor.laysRp.z37, v37 := YtckhliilndfljaaDoor.laysRp.v37, t70 := YtckhliilndfljaaDoor.laysRp.t70, a70 := YtckhliilndfljaaDoor.laysRp.a70, z70 := YtckhliilndfljaaDoor.laysRp.z70, v70 := YtckhliilndfljaaDoor.laysRp.v70, t72 := YtckhliilndfljaaDoor.laysRp.t72, a72 := YtckhliilndfljaaDoor.laysRp.a72, z72 := YtckhliilndfljaaDoor.laysRp.z72, v72 := YtckhliilndfljaaDoor.laysRp.v72, t75 := YtckhliilndfljaaDoor.laysRp.t75, a75 := YtckhliilndfljaaDoor.laysRp.a75, z75 := YtckhliilndfljaaDoor.laysRp.z75, v75 := YtckhliilndfljaaDoor.laysRp.v75, t164 := YtckhliilndfljaaDoor.laysRp.t164, a164 := YtckhliilndfljaaDoor.laysRp.a164, z164 := YtckhliilndfljaaDoor.laysRp.z164, v164 := YtckhliilndfljaaDoor.laysRp.v164 }
theorem xW : Builder.Extra Tryd.prog YtckhliilndfljaaDoor.laysRp_ren := { sizeBuilder := by kernel_rfl, liesBuilder := by kernel_rfl, t5 := Tryd.underlying5, a5 := Tryd.isAgg5, z5 := Tryd.sizeOf5, v5 := Tryd.zeroValue5, infoByte := by kernel_rfl, cellsByte := by kernel_rfl, sizeByte := by kernel_rfl, neB5 := by decide }
theorem xS : Builder.Extra Tryd.prog YtckhliilndfljaaDoor.laysBS_ren := { sizeBuilder := by kernel_rfl, liesBuilder := by kernel_rfl, t5 := Tryd.underlying5, a5 := Tryd.isAgg5, z5 := Tryd.sizeOf5, v5 := Tryd.zeroValue5, infoByte := by kernel_rfl, cellsByte := by kernel_rfl, sizeByte := by kernel_rfl, neB5 := by decide }
abbrev Bd (B b : Nat) (txt : Bs) (w : World) : Prop := Lib.IsBuilderF 55 5 B b (Lib.byteCells txt) w
theorem bLen (B b : Nat) (txt : Bs) (w : World) (h : Bd B b txt w) : Calls Tryd.prog 22 #[.pointer (some ⟨b, 0, none⟩)] w fun e w' => e = .returned (.int .i64 (txt.length : Int)) ∧ w' = w := by
  have h9 := Any.Builder_Len_f YtckhliilndfljaaDoor.laysBL B b _ w h
  rw [Lib.byteCells_length] at h9
  exact h9
theorem bWrite (B b : Nat) (txt s : Bs) (w : World) (h : Bd B b txt w) (hlen : txt.length + s.length ≤ 140737488355328) (hB : B ≤ w.heap.size) : Calls Tryd.prog 23 #[.pointer (some ⟨b, 0, none⟩), .string ⟨s.toArray⟩] w fun e w' => e = .returned (.tuple #[.int .i64 (s.length : Int), .nilIface]) ∧ Bd B b (txt ++ s) w' ∧ Below B w w' ∧ Lib.OthersKept 5 (some b) w w' := by
  have hsz : (⟨s.toArray⟩ : ByteArray).size = s.length := by simp [ByteArray.size]
  have h9 := Any.Builder_WriteString_k laysBW xW B b _ ⟨s.toArray⟩ w h (by rw [Lib.byteCells_length, hsz]; exact hlen) hB
  refine h9.mono ?_
  rintro e w' ⟨rfl, h1, h2, h3⟩
  rw [hsz]
  refine ⟨rfl, .inr ?_, h2, h3⟩
  rw [Lib.byteCells_append]
  exact h1
theorem bString (B b : Nat) (txt : Bs) (w : World) (h : Bd B b txt w) (hB : B ≤ w.heap.size) : Calls Tryd.prog 25 #[.pointer (some ⟨b, 0, none⟩)] w fun e w' => e = .returned (.string ⟨txt.toArray⟩) ∧ Below B w w' :=
  (Any.Builder_String_any_f YtckhliilndfljaaDoor.laysBS xS B b txt w h hB).mono fun e w' h9 => ⟨h9.1, h9.2.2⟩
theorem rep_one (c : UInt8) : ∀ n, Lib.repeatL [c] n = List.replicate n c
  | 0 => rfl
  | n + 1 => by
    show [c] ++ Lib.repeatL [c] n = _
    rw [rep_one c n]
    rfl
theorem sRep (c : UInt8) (n : Nat) (w : World) (hn : n ≤ 140737488355328) : Calls Tryd.prog 24 #[.string ⟨#[c]⟩, .int .i64 (n : Int)] w fun e w' => e = .returned (.string ⟨(List.replicate n c).toArray⟩) ∧ Below w.heap.size w w' := by
  have hsz : (⟨#[c]⟩ : ByteArray).size = 1 := rfl
  have h9 := Any.strings_Repeat YtckhliilndfljaaDoor.laysRp xW ⟨#[c]⟩ n w (by omega) (by rw [hsz]; omega)
  refine h9.mono ?_
  rintro e w' ⟨rfl, h1⟩
  refine ⟨?_, h1⟩
  rw [← rep_one]
theorem Bd.later {B b : Nat} {txt : Bs} {w w' : World} (h : Bd B b txt w) (hb : Below w.heap.size w w') : Bd B b txt w' := by
  have key : ∀ p, Lib.BuilderAtF 55 5 B b p (Lib.byteCells txt) w → Lib.BuilderAtF 55 5 B b p (Lib.byteCells txt) w' := by
    rintro p ⟨h1, v, h2, h3, h4⟩
    refine ⟨h1, v, (hb.block b (Array.getElem?_eq_some_iff.1 h2).1).trans h2, ?_, h4⟩
    refine ⟨h3.1, ?_⟩
    rcases h3.2 with h5 | ⟨g, cap, cur, fz, e1, e2, e3, e4⟩
    · exact .inl h5
    · exact .inr ⟨g, cap, cur, fz, e1, e2, (hb.block g (Array.getElem?_eq_some_iff.1 e3).1).trans e3, e4⟩
  rcases h with h | h
  · exact .inl (key _ h)
  · exact .inr (key _ h)
theorem Bd.lt {B b : Nat} {txt : Bs} {w : World} (h : Bd B b txt w) : B ≤ b ∧ b < w.heap.size := by
  rcases h with ⟨h1, v, h2, _⟩ | ⟨h1, v, h2, _⟩ <;> exact ⟨h1, (Array.getElem?_eq_some_iff.1 h2).1⟩
theorem Bd.new (w : World) : Bd w.heap.size w.heap.size [] (w.alloc (.cells #[.pointer none, .slice none 0 0] 55)) := Lib.IsBuilderF.of (Lib.fresh_isBuilder _ _ w)
/-- a token's box stays -/
theorem box_kept {b k : Nat} {w w' : World} {cs : Array Value} (h : Lib.OthersKept 5 (some b) w w') (hk : w.heap[k]? = some (.cells cs 34 (0, 0))) (hne : k ≠ b) : w'.heap[k]? = some (.cells cs 34 (0, 0)) :=
  h k _ hk (by intro e; injection e with e; exact hne e) (fun c fz e => by injection e with _ e _; revert e; decide)
end Go.Proofs.YtckhliilndfljaaDoor
