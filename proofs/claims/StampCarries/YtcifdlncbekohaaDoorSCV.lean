import Derived.Test.YtcifdlncbekohaaDoorRows
import Derived.Test.YtcifdlncbekohaaDoorSC6
import Derived.Deep.Slices
import Derived.ChangeOld
import Derived.SizedLaws
import Derived.WalkLawsBesides
import Derived.Lib.LaidTab
import Derived.Lay
import Derived.Stop.LaidErr
namespace Go.Proofs.YtcifdlncbekohaaDoor
open Go.ChangeShapes Go.WideShapes Go.ChangeAt Go.RowKit Go.Deep
set_option linter.unusedVariables false
set_option maxRecDepth 100000

theorem ls6 {α : Type} {l : List α} (h : l.length = 6) : ∃ a b c d e f, l = [a, b, c, d, e, f] := by
  match l, h with
  | [a, b, c, d, e, f], _ => exact ⟨a, b, c, d, e, f, rfl⟩
theorem ls4 {α : Type} {l : List α} (h : l.length = 4) : ∃ a b c d, l = [a, b, c, d] := by
  match l, h with
  | [a, b, c, d], _ => exact ⟨a, b, c, d, rfl⟩
theorem ls3 {α : Type} {l : List α} (h : l.length = 3) : ∃ a b c, l = [a, b, c] := by
  match l, h with
  | [a, b, c], _ => exact ⟨a, b, c, rfl⟩
theorem view_sev {H : Type} {enc : TypeId × Value → H} {W : World} {fuel : Nat} {cs : List Value} {x : DataW H × List MemPlace} (h : DataW.trod enc Tryd.prog W 0 (fun _ => true) true fuel 36 cs = some x) (hl : cs.length = 6) :
    ∃ e : Se, cs = seL e ∧ SeIn e := by
  obtain ⟨c0, c1, c2, c3, c4, c5, rfl⟩ := ls6 hl
  obtain ⟨xs, n, _, _, _, hxl, hx⟩ := DataW.trod_struct Tryd.underlying36 h
  obtain ⟨y0, y1, y2, y3, rfl⟩ := ls4 (by simpa using hxl)
  have k24 : Tryd.prog.cellsOf 34 = 3 := by kernel_rfl
  have k22 : Tryd.prog.cellsOf 32 = 1 := by kernel_rfl
  have k3 : Tryd.prog.cellsOf 3 = 1 := by kernel_rfl
  have k2 : Tryd.prog.cellsOf 2 = 1 := by kernel_rfl
  have g0 := hx 0 _ rfl
  have g1 := hx 1 _ rfl
  have g2 := hx 2 _ rfl
  have g3 := hx 3 _ rfl
  simp [k24, k3, k2] at g0 g1 g2 g3
  obtain ⟨ys, n', _, _, _, hyl, hy⟩ := DataW.trod_struct Tryd.underlying34 g0
  obtain ⟨z0, z1, z2, rfl⟩ := ls3 (by simpa using hyl)
  have e0 := hy 0 _ rfl
  have e1 := hy 1 _ rfl
  have e2 := hy 2 _ rfl
  simp [k22, k3] at e0 e1 e2
  obtain ⟨x0, s0, _, w0⟩ := DataW.trod_int Tryd.underlying32 e0
  obtain ⟨x1, s1, _, w1⟩ := DataW.trod_int Tryd.underlying3 e1
  obtain ⟨x2, s2, _, w2⟩ := DataW.trod_int Tryd.underlying32 e2
  obtain ⟨x3, s3, _, w3⟩ := DataW.trod_int Tryd.underlying3 g1
  obtain ⟨x4, s4, _, w4⟩ := DataW.trod_int Tryd.underlying3 g2
  obtain ⟨x5, s5, _, w5⟩ := DataW.trod_int Tryd.underlying2 g3
  simp at s0 s1 s2 s3 s4 s5
  subst s0 s1 s2 s3 s4 s5
  have b0 := bounds_u64 w0
  have b2 := bounds_u64 w2
  exact ⟨⟨x0, x1, x2, x3, x4, x5⟩, rfl, ⟨by show 0 ≤ x0 ∧ x0 < _; omega, by show 0 ≤ x2 ∧ x2 < _; omega, bounds_i64 w1, bounds_i64 w3, bounds_i64 w4, bounds_i64 w5⟩⟩
theorem bulk_posO {H : Type} (d : DataW H) : 1 ≤ Rows.uptoBulk d := by
  unfold Rows.uptoBulk
  split <;> omega
theorem bulk_lenO {H : Type} : ∀ l : List (DataW H), l.length ≤ Rows.uptoBulkAll l
  | [] => Nat.zero_le _
  | d :: r => by
    have := bulk_posO d
    have := bulk_lenO r
    simp only [List.length_cons, Rows.uptoBulkAll]
    omega
theorem bulk_appO {H : Type} : ∀ (a b : List (DataW H)), Rows.uptoBulkAll (a ++ b) = Rows.uptoBulkAll a + Rows.uptoBulkAll b
  | [], b => by simp [Rows.uptoBulkAll]
  | d :: r, b => by
    have := bulk_appO r b
    simp only [List.cons_append, Rows.uptoBulkAll]
    omega
theorem off_bulk {H : Type} {Y : Nat → LsP} {D : Nat → DataW H} : ∀ m, (∀ j, j < m → (Y j).n ≤ Rows.uptoBulk (D j)) → offL Y m ≤ Rows.uptoBulkAll ((List.range m).map D)
  | 0, _ => Nat.zero_le _
  | m + 1, h => by
    have h1 := off_bulk m (fun j hj => h j (by omega))
    have h2 := h m (by omega)
    rw [List.range_succ, List.map_append, bulk_appO]
    simp only [List.map_cons, List.map_nil, Rows.uptoBulkAll]
    show offL Y m + (Y m).n ≤ _
    omega
theorem view_evs1 {H : Type} {enc : TypeId × Value → H} {W : World} {fuel : Nat} {kv : Value} {x : DataW H × List MemPlace} (h : DataW.trod enc Tryd.prog W 0 (fun _ => true) true fuel 24 [kv] = some x) :
    ∃ Z : LsP, kv = .slice Z.p Z.n Z.c ∧ SIn W Z.p Z.n Z.X ∧ Z.n ≤ Rows.uptoBulk x.1 ∧ ∀ i, i < Z.n → SeIn (Z.X i) := by
  have k6 : Tryd.prog.cellsOf 36 = 6 := by kernel_rfl
  have inh : Inhabited Se := ⟨zeSM⟩
  rcases open_slice Tryd.underlying24 h with ⟨hcs, _⟩ | ⟨a, len, cap, m, n', D, Pl, hcs, _, hl, hm, hmm, hy0, hel⟩
  · simp at hcs
    subst hcs
    exact ⟨⟨none, 0, 0, fun _ => zeSM⟩, rfl, .inl rfl, Nat.zero_le _, fun i hi => absurd hi (Nat.not_lt_zero _)⟩
  · simp at hcs
    subst hcs
    simp only [if_true] at hmm
    subst hmm
    rw [k6] at hel
    have hlen : len ≤ Rows.uptoBulk x.1 := by
      have h1 := bulk_lenO ((List.range len).map D)
      rw [hy0]
      simp only [Rows.uptoBulk]
      simp only [List.length_map, List.length_range] at h1
      omega
    have hall : ∀ i, i < len → ∃ X : Se, (∃ cs', W.cells? 0 (a.add (i * 6)) 6 = some cs' ∧ cs' = seL X) ∧ SeIn X := by
      intro i hi
      obtain ⟨cs', h1, h2⟩ := hel i (by omega)
      have hlen := (World.cells?_some h1).2.1
      obtain ⟨X, h3, h4⟩ := view_sev h2 hlen
      exact ⟨X, ⟨cs', h1, h3⟩, h4⟩
    obtain ⟨N, hN⟩ := choose_lt hall
    refine ⟨⟨some a, m, len, N⟩, rfl, ?_, hlen, fun i hi => (hN i hi).2⟩
    rcases Nat.eq_zero_or_pos len with z | z
    · exact .inl z
    · obtain ⟨b, off, spot⟩ := a
      obtain ⟨⟨cs0, e0, e1⟩, _⟩ := hN 0 z
      have h0 := (World.cells?_some e0).2.2 0 (by decide)
      rw [e1] at h0
      have hspot : spot = none := by simpa [Addr.add] using World.cell?_spot h0
      subst hspot
      have hbl := World.block_lt_of_cell? _ _ h0
      refine .inr ⟨b, off, rfl, by simpa [Addr.add] using hbl, fun j hj => ?_⟩
      have hj' : j < len * 6 := hj
      obtain ⟨⟨cs', f0, f1⟩, _⟩ := hN (j / 6) (by omega)
      have hc := (World.cells?_some f0).2.2
      rw [f1] at hc
      have hr : j % 6 < 6 := by omega
      have h6 := hc (j % 6) hr
      rw [addr_add0, addr_add0, show off + j / 6 * 6 + j % 6 = off + j by omega] at h6
      rw [h6]
      unfold seF seC
      have : j % 6 = 0 ∨ j % 6 = 1 ∨ j % 6 = 2 ∨ j % 6 = 3 ∨ j % 6 = 4 ∨ j % 6 = 5 := by omega
      rcases this with e | e | e | e | e | e <;> rw [e] <;> rfl
theorem view_evss {H : Type} {enc : TypeId × Value → H} {W : World} {base : Nat} {v : Value} {d : DataW H} {pl : List MemPlace}
    (hval : Value.okWide Tryd.prog W .any base 22 v) (h : DataW.Trod enc Tryd.prog W 0 (fun _ => true) true 22 v d pl) (hb : Rows.uptoBulk d ≤ 1048576) :
    ∃ (p : Option Addr) (n c : Nat) (Y : Nat → LsP), v = .slice p n c ∧ LsIn W p n Y ∧ (n ≤ 1048576 ∧ offL Y n ≤ 1048576 ∧ ∀ k, k < n → ∀ i, i < (Y k).n → SeIn ((Y k).X i)) := by
  obtain ⟨sl, len0, cap0, rfl⟩ := okWide_slice Tryd.underlying22 hval
  obtain ⟨fuel, g0⟩ := h
  have k1 : Tryd.prog.cellsOf 24 = 1 := by kernel_rfl
  have inh : Inhabited LsP := ⟨⟨none, 0, 0, fun _ => zeSM⟩⟩
  simp only [Value.cells] at g0
  rcases open_slice1 Tryd.underlying22 k1 g0 with ⟨hcs, _⟩ | ⟨a, len, cap, m, n', V, D, Pl, hcs, _, hl, hm, hmm, hy0, hel⟩
  · simp at hcs
    obtain ⟨rfl, rfl, rfl⟩ := hcs
    exact ⟨none, 0, 0, fun _ => ⟨none, 0, 0, fun _ => zeSM⟩, rfl, ⟨.inl rfl, fun k hk => absurd hk (Nat.not_lt_zero _)⟩, Nat.zero_le _, Nat.zero_le _, fun k hk => absurd hk (Nat.not_lt_zero _)⟩
  · simp at hcs
    obtain ⟨rfl, rfl, rfl⟩ := hcs
    simp only [if_true] at hmm
    subst hmm
    simp only [Prod.mk.injEq] at hy0
    rw [hy0.1] at hb
    simp only [Rows.uptoBulk] at hb
    have h1 := bulk_lenO ((List.range len0).map D)
    simp only [List.length_map, List.length_range] at h1
    have hall : ∀ i, i < len0 → ∃ Z : LsP, V i = .slice Z.p Z.n Z.c ∧ SIn W Z.p Z.n Z.X ∧ Z.n ≤ Rows.uptoBulk (D i) ∧ ∀ j, j < Z.n → SeIn (Z.X j) := fun i hi => view_evs1 (hel i (by omega)).2
    obtain ⟨Y, hY⟩ := choose_lt hall
    have h2 := off_bulk (Y := Y) (D := D) len0 (fun j hj => (hY j hj).2.2.1)
    refine ⟨some a, len0, m, Y, rfl, ⟨?_, fun k hk => (hY k hk).2.1⟩, by omega, by omega, fun k hk => (hY k hk).2.2.2⟩
    rcases Nat.eq_zero_or_pos len0 with z | z
    · exact .inl z
    · obtain ⟨b, off, spot⟩ := a
      have h0 := (hel 0 (by omega)).1
      have hspot : spot = none := by simpa [Addr.add] using World.cell?_spot h0
      subst hspot
      have hbl := World.block_lt_of_cell? _ _ h0
      refine .inr ⟨b, off, rfl, by simpa [Addr.add] using hbl, fun i hi => ?_⟩
      have h9 := (hel i (by omega)).1
      rw [addr_add0, (hY i hi).1] at h9
      exact h9
theorem view_tail {H : Type} {enc : TypeId × Value → H} {W : World} {base : Nat} {v : Value} {d : DataW H} {pl : List MemPlace}
    (hval : Value.okWide Tryd.prog W .any base 23 v) (h : DataW.Trod enc Tryd.prog W 0 (fun _ => true) true 23 v d pl) (hb : Rows.uptoBulk d ≤ 1048576) :
    ∃ (p : Option Addr) (n c : Nat) (t : List Nat), v = .slice p n c ∧ TailAt W p t ∧ (t.length = n ∧ n ≤ 1048576) := by
  obtain ⟨sl, len, cap, rfl⟩ := okWide_slice Tryd.underlying23 hval
  obtain ⟨fuel, hf⟩ := h
  rcases open_ints Tryd.underlying23 Tryd.underlying5 (by kernel_rfl) hf with ⟨hcs, _⟩ | ⟨x, l, c, zs, hcs, _, hl, hm, hz, hx, hcell, hwz⟩
  · simp [Value.cells] at hcs
    obtain ⟨_, rfl, _⟩ := hcs
    exact ⟨_, 0, _, [], rfl, ⟨.inl rfl, fun x hx => by cases hx⟩, rfl, Nat.zero_le _⟩
  · simp [Value.cells] at hcs
    obtain ⟨rfl, rfl, rfl⟩ := hcs
    simp only [if_true] at hz
    have hin : ∀ i (hi : i < zs.length), 0 ≤ zs[i] ∧ zs[i] ≤ 255 := fun i hi => bounds_u8 (hwz _ (List.getElem_mem hi))
    have hlt : ((zs.take len).map Int.toNat).length = len := by simp; omega
    refine ⟨_, len, _, (zs.take len).map Int.toNat, rfl, ⟨?_, fun y hy => ?_⟩, hlt, ?_⟩
    · rw [hlt]
      rcases Nat.eq_zero_or_pos len with z | z
      · exact .inl z
      · obtain ⟨b, off, spot⟩ := x
        have h0 := hcell 0 (by omega)
        have hspot : spot = none := by simpa [Addr.add] using World.cell?_spot h0
        subst hspot
        have hbl := World.block_lt_of_cell? _ _ h0
        refine .inr ⟨b, off, rfl, by simpa [Addr.add] using hbl, fun i hi => ?_⟩
        have h9 := hcell i (by omega)
        rw [addr_add0] at h9
        rw [h9]
        have hiz : i < zs.length := by omega
        have := hin i hiz
        have e1 : bOf ((zs.take len).map Int.toNat) i = zs[i] := by
          unfold bOf
          simp [List.getD, hi, hiz]
          omega
        rw [e1]
        simp [List.getD, hiz]
    · obtain ⟨z, hz', rfl⟩ := List.mem_map.1 hy
      obtain ⟨i, hi, rfl⟩ := List.getElem_of_mem (List.mem_of_mem_take hz')
      have := hin i hi
      omega
    · rcases Nat.eq_zero_or_pos len with z | z
      · omega
      · simp only [Prod.mk.injEq] at hx
        rw [hx.1] at hb
        simp only [Rows.uptoBulk] at hb
        have h4 := bulk_lenO (H := H) (lits .u8 (List.take len zs))
        have h5 : (lits (H := H) .u8 (List.take len zs)).length = len := by simp [lits]; omega
        omega
theorem pz_data : (Rows.laid_internal_strconv_uint64pow10 : DataW Unit) = Lib.tabData .u64 Lib.pow10Tab := by kernel_rfl
theorem pz_star : "*" ++ "errors.errorString" = "*errors.errorString" := by decide
theorem pz_row (u : TypeId) (h : Tryd.prog.typeName? 3 u = some "*errors.errorString") : u = 112 :=
  typeName_ptr_named (nm := "errors.errorString") (by rw [pz_star]; kernel_rfl) (by kernel_rfl) (by decide) u (by rw [pz_star]; exact h)

theorem ground_of {W : World} (h : laidMetH Tryd.prog Rows.stampCarriesUptoRow.laid W) (hs : W.ShapedOpen Tryd.prog) : Gr W := by
  have h1 : laidMet Tryd.prog [("math/bits.deBruijn32tab", Rows.laid_math_bits_deBruijn32tab), ("math/bits.deBruijn64tab", Rows.laid_math_bits_deBruijn64tab), ("internal/strconv.uint64pow10", Rows.laid_internal_strconv_uint64pow10), ("strconv.ErrRange", Rows.laid_strconv_ErrRange), ("strconv.ErrSyntax", Rows.laid_strconv_ErrSyntax)] W := h
  have h2 := h1.tail.tail
  have h3 : laidMet Tryd.prog [("strconv.ErrRange", Rows.laid_strconv_ErrRange), ("strconv.ErrSyntax", Rows.laid_strconv_ErrSyntax)] W := h2.tail
  have h4 : laidMet Tryd.prog [("strconv.ErrSyntax", Rows.laid_strconv_ErrSyntax)] W := h3.tail
  rw [pz_data] at h2
  refine ⟨?_, ?_, laysCut.s1_3 W hs, ?_⟩
  · obtain ⟨a, s, hv, _⟩ := laid_sentinel h4 (by kernel_rfl : Tryd.prog.globalNamed "strconv.ErrSyntax" = some 2) (by kernel_rfl : (Tryd.prog.globals[2]?).map (·.type) = some 74) Tryd.underlying74 pz_row Tryd.underlying112 Tryd.underlying114 rfl rfl Tryd.underlying9 (by kernel_rfl) (by kernel_rfl)
    exact ⟨_, _, hv⟩
  · obtain ⟨a, s, hv, _⟩ := laid_sentinel h3 (by kernel_rfl : Tryd.prog.globalNamed "strconv.ErrRange" = some 3) (by kernel_rfl : (Tryd.prog.globals[3]?).map (·.type) = some 74) Tryd.underlying74 pz_row Tryd.underlying112 Tryd.underlying114 rfl rfl Tryd.underlying9 (by kernel_rfl) (by kernel_rfl)
    exact ⟨_, _, hv⟩
  · exact Lib.tabIs_of_head (rest := [("strconv.ErrRange", Rows.laid_strconv_ErrRange), ("strconv.ErrSyntax", Rows.laid_strconv_ErrSyntax)]) (by kernel_rfl : Tryd.prog.globalNamed "internal/strconv.uint64pow10" = some 1) (by kernel_rfl : (Tryd.prog.globals[1]?).map (·.type) = some 98) Tryd.underlying98 Tryd.underlying32 (by kernel_rfl) (by kernel_rfl) h2

theorem carries_law' (p : Option Addr) (m c : Nat) (Y : Nat → LsP) (pt : Option Addr) (n ct : Nat) (t : List Nat) (hz : m ≤ 1048576 ∧ offL Y m ≤ 1048576 ∧ ∀ k, k < m → ∀ i, i < (Y k).n → SeIn ((Y k).X i)) (hn : t.length = n ∧ n ≤ 1048576) (w : World) (g : Gr w) (hy : LsIn w p m Y) (hT : TailAt w pt t) : Calls Tryd.prog 3 #[.slice p m c, .slice pt n ct] w fun e w' => e = .returned (.bool true) ∧ Below w.heap.size w w' := by
  obtain ⟨rfl, h2⟩ := hn
  exact carries_law p m c Y hz.1 hz.2.1 pt t ct h2 w g hy hz.2.2 hT
end Go.Proofs.YtcifdlncbekohaaDoor
