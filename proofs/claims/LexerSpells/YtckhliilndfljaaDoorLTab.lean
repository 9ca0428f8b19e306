import Derived.Test.YtckhliilndfljaaDoorLPure
import Derived.Test.YtckhliilndfljaaDoorCards
import Derived.Test.YtckhliilndfljaaDoorTie
import Derived.Lib.LaidTab
import Derived.Handy
namespace Go.Proofs.YtckhliilndfljaaDoor
open Go.ChangeShapes Go.WideShapes Go.ChangeAt Go.RowKit
set_option linter.unusedVariables false

/-- the table of spellings, as the program holds it -/
def Sp (w : World) : Prop := ∀ k, k < 80 → w.cell? ⟨0, k, none⟩ = some (.string ⟨(spl k).toArray⟩)

theorem Sp.keep {w w' : World} (h : Sp w) (hb : Below w.heap.size w w') : Sp w' := by
  intro k hk
  have hc := h k hk
  have hlt : 0 < w.heap.size := by
    unfold World.cell? at hc
    cases hh : w.heap[0]? with
    | none => simp [hh] at hc
    | some o => exact (Array.getElem?_eq_some_iff.1 hh).1
  rw [hb.cell (p := ⟨0, k, none⟩) hlt]
  exact hc

def splAll : List Bs := (List.range 80).map spl
def spData : DataW Unit := .agg (splAll.map fun s => .lit (.string s))
theorem sp_data : (Rows.laid_horizon_lexer_spelling : DataW Unit) = spData := by kernel_rfl

/-- an array of strings that reads as the table holds it, cell for cell -/
theorem cells_of_strs {H : Type} {enc : TypeId × Value → H} {P : Program} {w : World} {base : Nat} {sp : Nat → Bool} {held : Bool} {fuel : Nat} {t e : TypeId} {n : Nat} {cs : List Value} {zs : List Bs} {p : List MemPlace}
    (ht : P.underlying t = some (.array n e)) (he : P.underlying e = some .string) (hce : P.cellsOf e = 1) (hct : P.cellsOf t = n)
    (h : DataW.trod enc P w base sp held fuel t cs = some (.agg (zs.map fun z => .lit (.string z)), p)) : ∀ i, i < zs.length → cs[i]? = some (.string ⟨(zs.getD i []).toArray⟩) := by
  cases fuel with
  | zero => simp [DataW.trod] at h
  | succ fuel =>
    simp only [DataW.trod, ht, hce, hct, Nat.mul_one] at h
    split at h
    · rename_i hl
      obtain ⟨xs, hm, hx⟩ := Option.map_eq_some_iff.1 h
      have hxs : xs.map (·.1) = zs.map fun z => (DataW.lit (.string z) : DataW H) := by
        have := congrArg Prod.fst hx
        simpa using this
      have hxl : xs.length = n := by simpa using Lib.mapM_length hm
      have hzl : zs.length = n := by
        have := congrArg List.length hxs
        simp at this
        omega
      intro i hi
      have hi2 : i < n := by omega
      obtain ⟨b, hb, hf⟩ := Lib.mapM_at hm i i (by simp [hi2])
      obtain ⟨s, hc, rfl, _⟩ := DataW.trod_string he hf
      have h1 : cs[i]? = some (.string s) := by
        have := congrArg (·[0]?) hc
        simpa [List.getElem?_take, List.getElem?_drop] using this
      have h2 : (xs.map (·.1))[i]? = some (DataW.lit (.string s.data.toList) : DataW H) := by simp [hb]
      rw [hxs] at h2
      simp only [List.getElem?_map, Option.map_eq_some_iff, DataW.lit.injEq, Lit.string.injEq] at h2
      obtain ⟨z', hz', hz2⟩ := h2
      rw [h1]
      simp only [List.getD, hz', Option.getD_some, hz2]
    · cases h

theorem splAll_getD (k : Nat) (h : k < 80) : splAll.getD k [] = spl k := by
  simp [splAll, List.getD, h]

theorem sp_of_head {W : World} {rest : List (String × DataW Unit)} (h : laidMet Tryd.prog (("horizon/lexer.spelling", Rows.laid_horizon_lexer_spelling) :: rest) W) : Sp W := by
  rw [sp_data] at h
  obtain ⟨ps, ⟨g', t', cs, fuel, p, q, hg', ht', hvar, hd, _, _⟩, _⟩ := h
  have hg : Tryd.prog.globalNamed "horizon/lexer.spelling" = some 0 := by kernel_rfl
  have hty : (Tryd.prog.globals[0]?).map (·.type) = some 93 := by kernel_rfl
  obtain rfl := Option.some.inj (hg.symm.trans hg')
  obtain rfl := Option.some.inj (hty.symm.trans ht')
  intro k hk
  have := World.var?_cell hg hvar k
  rw [this]
  have hc := cells_of_strs Tryd.underlying93 Tryd.underlying9 (by kernel_rfl) (by kernel_rfl) hd k (by simp [splAll]; exact hk)
  rw [splAll_getD k hk] at hc
  simpa using hc

end Go.Proofs.YtckhliilndfljaaDoor
