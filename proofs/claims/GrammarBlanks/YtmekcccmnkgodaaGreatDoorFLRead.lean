import Derived.Test.YtmekcccmnkgodaaGreatDoorFLWord
import Derived.Test.YtmekcccmnkgodaaGreatDoorFLShelf
import Derived.Shelf.Pu.ErrVarParseUint
import Derived.BigRegion
namespace Go.Proofs.YtmekcccmnkgodaaGreatDoor
open Go.ChangeShapes Go.WideShapes Go.ChangeAt Go.RowKit
set_option linter.unusedVariables false

theorem var_keep {w w' : World} {n : String} {cs : Array Value} (h : w.var? Tryz.prog n = some cs) (hb : Below w.heap.size w w') : w'.var? Tryz.prog n = some cs := by
  unfold World.var? at h ⊢
  cases hg : Tryz.prog.globalNamed n with
  | none => simp [hg] at h
  | some g =>
    simp only [hg, Option.bind_some] at h ⊢
    have hlt : g < w.heap.size := by
      cases hh : w.heap[g]? with
      | none => simp [hh] at h
      | some o => exact (Array.getElem?_eq_some_iff.1 hh).1
    rw [hb.block g hlt]
    exact h
/-- what the lexer wants of a world: its table, and the two errors of strconv's -/
structure Gr (w : World) : Prop where
  sp : Sp w
  syn : ∃ tp p, w.var? Tryz.prog "strconv.ErrSyntax" = some #[.iface tp p]
  ran : ∃ tp p, w.var? Tryz.prog "strconv.ErrRange" = some #[.iface tp p]
theorem Gr.keep {w w' : World} (h : Gr w) (hb : Below w.heap.size w w') : Gr w' := by
  obtain ⟨h0, ⟨t1, p1, h1⟩, ⟨t2, p2, h2⟩⟩ := h
  exact ⟨h0.keep hb, ⟨t1, p1, var_keep h1 hb⟩, ⟨t2, p2, var_keep h2 hb⟩⟩

/-- what readNumber makes of a text -/
def numE (t : Bs) : Rd := match Lib.parseUintB 64 t with | .ok u => .ok 2 t u | _ => .err 32
def rdD (s : Bs) : Rd := if headIs pN (s.drop (s.takeWhile pD).length) = true then .err 32 else numE (s.takeWhile pD)

/-- ParseUint, as far as the lexer asks: the number and nil, or some error -/
theorem pU_any (l : Bs) (hl : l.length ≤ 281474976710656) (w : World) (g : Gr w) :
    Calls Tryz.prog 89 #[.string ⟨l.toArray⟩, .int .i64 10, .int .i64 64] w fun e w' => ∃ x : Nat × Option (TypeId × Addr), e = .returned (.tuple #[.int .u64 x.1, match x.2 with | none => .nilIface | some y => .iface y.1 (.pointer (some y.2))]) ∧ (match Lib.parseUintB 64 l with | .ok u => x = (u, none) | _ => x.2.isSome = true) ∧ Below w.heap.size w w' := by
  have hsz : (⟨l.toArray⟩ : ByteArray).size ≤ 281474976710656 := by simpa [ByteArray.size] using hl
  obtain ⟨_, ⟨t1, p1, h1⟩, ⟨t2, p2, h2⟩⟩ := g
  cases h : Lib.parseUintB 64 l with
  | ok u =>
    refine (Any.strconv_ParseUint_10_at64_ok laysPU ⟨l.toArray⟩ (by omega) u (by simpa using h) w).mono ?_
    rintro e w' ⟨rfl, rfl | rfl⟩
    · exact ⟨(u, none), rfl, rfl, Below.refl _ _⟩
    · exact ⟨(u, none), rfl, rfl, Lib.bytesWorld_below _ _ _⟩
  | «syntax» =>
    refine (Any.strconv_ParseUint_10_at64_syntax_var laysPU ⟨l.toArray⟩ (by omega) (by simpa using h) t1 p1 w h1).mono ?_
    rintro e w' ⟨N, rfl, _, _, hb⟩
    exact ⟨(0, some (_, ⟨N, 0, none⟩)), rfl, rfl, hb⟩
  | range =>
    refine (Any.strconv_ParseUint_10_at64_range_var laysPU ⟨l.toArray⟩ (by omega) (by simpa using h) t2 p2 w h2).mono ?_
    rintro e w' ⟨N, rfl, _, _, hb⟩
    exact ⟨(18446744073709551615, some (_, ⟨N, 0, none⟩)), rfl, rfl, hb⟩

set_option maxRecDepth 100000 in
theorem readNumber_any (s : Bs) (hl : s.length ≤ 281474976710656) (w : World) (g : Gr w) :
    Calls Tryz.prog 68 #[.string ⟨s.toArray⟩] w fun e w' => e = .returned (rdV (rdD s)) ∧ Below w.heap.size w w' := by
  have hmx : s.length ≤ maxLen := Nat.le_trans hl (by unfold maxLen; omega)
  have hlen : (s.takeWhile pD).length ≤ s.length := (List.takeWhile_sublist _).length_le
  have htake : (⟨s.toArray⟩ : ByteArray).extract 0 (s.takeWhile pD).length = ⟨(s.takeWhile pD).toArray⟩ := by rw [ext_take, take_tw pD s]
  have HS : ∀ w', Hid (Calls Tryz.prog 44 #[.string ⟨s.toArray⟩, .func (.func 67) #[] #[]] w' fun e w'' => e = .returned (.int .i64 (s.takeWhile pD).length) ∧ Below w'.heap.size w' w'') := fun w' => span_isDigit s hmx w'
  have HP0 : ∀ w', Below w.heap.size w w' → Calls Tryz.prog 89 #[.string ⟨(s.takeWhile pD).toArray⟩, .int .i64 10, .int .i64 64] w' fun e w'' => ∃ x : Nat × Option (TypeId × Addr), e = .returned (.tuple #[.int .u64 x.1, match x.2 with | none => .nilIface | some y => .iface y.1 (.pointer (some y.2))]) ∧ (match Lib.parseUintB 64 (s.takeWhile pD) with | .ok u => x = (u, none) | _ => x.2.isSome = true) ∧ Below w'.heap.size w' w'' := fun w' hb => pU_any _ (by omega) w' (g.keep hb)
  unfold rdD
  have hhd : (s.takeWhile pD).length < s.length → ∃ c, s[(s.takeWhile pD).length]? = some c ∧ headIs pN (s.drop (s.takeWhile pD).length) = pN c := by
    intro h
    refine ⟨s[(s.takeWhile pD).length], List.getElem?_eq_getElem h, ?_⟩
    rw [List.drop_eq_getElem_cons h]
    rfl
  have hhe : ¬ (s.takeWhile pD).length < s.length → headIs pN (s.drop (s.takeWhile pD).length) = false := by
    intro h
    rw [List.drop_eq_nil_of_le (by omega)]
    rfl
  clear g
  generalize s.takeWhile pD = t at *
  have hsz : (⟨s.toArray⟩ : ByteArray).size = s.length := by simp [ByteArray.size]
  have htz : (⟨t.toArray⟩ : ByteArray).size = t.length := by simp [ByteArray.size]
  -- what the tail makes of it
  have hnum : Hid (∀ w', Below w.heap.size w w' → (∃ u, numE t = .ok 2 t u ∧ Hid (Calls Tryz.prog 89 #[.string ⟨t.toArray⟩, .int .i64 10, .int .i64 64] w' fun e w'' => e = .returned (.tuple #[.int .u64 u, .nilIface]) ∧ Below w'.heap.size w' w'')) ∨ (numE t = .err 32 ∧ Hid (Calls Tryz.prog 89 #[.string ⟨t.toArray⟩, .int .i64 10, .int .i64 64] w' fun e w'' => (∃ u ty a, e = .returned (.tuple #[.int .u64 u, .iface ty (.pointer (some a))])) ∧ Below w'.heap.size w' w''))) := by
    intro w' hb
    have h := HP0 w' hb
    unfold numE
    cases hp : Lib.parseUintB 64 t with
    | ok u =>
      refine .inl ⟨u, rfl, ?_⟩
      refine h.mono ?_
      rintro e w'' ⟨x, rfl, hx, hb2⟩
      rw [hp] at hx
      obtain rfl : x = (u, none) := hx
      exact ⟨rfl, hb2⟩
    | «syntax» =>
      refine .inr ⟨rfl, ?_⟩
      refine h.mono ?_
      rintro e w'' ⟨⟨u, x⟩, rfl, hx, hb2⟩
      rw [hp] at hx
      cases x with
      | none => cases hx
      | some y => exact ⟨⟨u, y.1, y.2, rfl⟩, hb2⟩
    | range =>
      refine .inr ⟨rfl, ?_⟩
      refine h.mono ?_
      rintro e w'' ⟨⟨u, x⟩, rfl, hx, hb2⟩
      rw [hp] at hx
      cases x with
      | none => cases hx
      | some y => exact ⟨⟨u, y.1, y.2, rfl⟩, hb2⟩
  clear HP0
  by_cases hlt : t.length < s.length
  · obtain ⟨c, hc, hhc⟩ := hhd hlt
    have hltb : t.length < (⟨s.toArray⟩ : ByteArray).size := by omega
    have hg : ((⟨s.toArray⟩ : ByteArray)[t.length]'hltb) = c := by
      rw [List.getElem?_eq_getElem hlt] at hc
      exact Option.some.inj hc
    have HI : ∀ w', Hid (Calls Tryz.prog 87 #[.int .i32 (c.toNat : Nat)] w' fun e w'' => e = .returned (.bool (pN c)) ∧ w'' = w') := fun w' => inName_any c.toNat w'
    have d0 : decide ((t.length : Int) < s.length) = true := decide_eq_true (by omega)
    have hw32 : wrap32 (c.toNat : Int) = c.toNat := by have := c.toNat_lt; unfold wrap32; omega
    rw [hhc]
    clear hhd hhe hhc hc
    cases hp : pN c with
    | true =>
      rw [hp] at HI
      rw [if_pos rfl]
      clear hnum
      go_enter Tryz.func68, Tryz.ntmps68
      go_wp2_with (first | (go_at_call 44; with_reducible refine ((HS _).out).mono ?_; rintro e w' ⟨rfl, hb1⟩; obtain ⟨hg1, hb2⟩ := new_kept hb1; clear hb1) | (go_at_call 87; with_reducible refine ((HI _).out).mono ?_; rintro e w'' ⟨rfl, hw⟩; subst w'') | (refine wpList_store_row rfl _ _ _ rfl w.heap.size #[.int .i64 0, .string ⟨#[]⟩, .int .u64 0, .int .i64 0, .int .i64 0] rfl rfl _ _ hg1 (by kernel_rfl) rfl (by kernel_rfl) ?_; obtain ⟨w9, hw9, hr9, k0, k1, k2, k3, k4, hb9⟩ := row5 hg1 hb2 (Nat.le_refl _) (.int .i64 0) (.string ⟨#[]⟩) (.int .u64 0) (.int .i64 0) (.int .i64 0); rw [hw9]; clear hw9 hg1 hb2))
      refine bodyPost_ret (by simp [results, Tryz.results68, go_sem, k0, k1, k2, k3, k4]; try rfl) rfl ?_
      exact ⟨rfl, hb9⟩
    | false =>
      rw [hp] at HI
      rw [if_neg (by simp)]
      go_enter Tryz.func68, Tryz.ntmps68
      go_wp2_with (first | (go_at_call 44; with_reducible refine ((HS _).out).mono ?_; rintro e w' ⟨rfl, hb1⟩; obtain ⟨hg1, hb2⟩ := new_kept hb1; clear hb1) | (go_at_call 87; with_reducible refine ((HI _).out).mono ?_; rintro e w'' ⟨rfl, hw⟩; subst w'') | (go_at_call 89; rcases hnum.out _ hb2 with ⟨u, hu, HP⟩ | ⟨hu, HP⟩; (with_reducible refine (HP.out).mono ?_; rintro e w'' ⟨rfl, hb3⟩; have hg2 := (hb3.block _ (Array.getElem?_eq_some_iff.1 hg1).1).trans hg1; have hb4 := hb2.trans (hb3.mono hb2.size); clear hg1 hb2 hb3 hnum); rotate_left; (with_reducible refine (HP.out).mono ?_; rintro e w'' ⟨⟨u, ty, a, rfl⟩, hb3⟩; have hg2 := (hb3.block _ (Array.getElem?_eq_some_iff.1 hg1).1).trans hg1; have hb4 := hb2.trans (hb3.mono hb2.size); clear hg1 hb2 hb3 hnum); rotate_left) | (refine wpList_store_row rfl _ _ _ rfl w.heap.size #[.int .i64 2, .string ⟨t.toArray⟩, .int .u64 u, .int .i64 0, .int .i64 0] rfl rfl _ _ hg2 (by kernel_rfl) rfl (by kernel_rfl) ?_; obtain ⟨w9, hw9, hr9, k0, k1, k2, k3, k4, hb9⟩ := row5 hg2 hb4 (Nat.le_refl _) (.int .i64 2) (.string ⟨t.toArray⟩) (.int .u64 u) (.int .i64 0) (.int .i64 0); rw [hw9]; clear hw9 hg2 hb4) | (refine wpList_store_row rfl _ _ _ rfl w.heap.size #[.int .i64 0, .string ⟨#[]⟩, .int .u64 0, .int .i64 0, .int .i64 0] rfl rfl _ _ hg2 (by kernel_rfl) rfl (by kernel_rfl) ?_; obtain ⟨w9, hw9, hr9, k0, k1, k2, k3, k4, hb9⟩ := row5 hg2 hb4 (Nat.le_refl _) (.int .i64 0) (.string ⟨#[]⟩) (.int .u64 0) (.int .i64 0) (.int .i64 0); rw [hw9]; clear hw9 hg2 hb4))
      all_goals (refine bodyPost_ret (by simp [results, Tryz.results68, go_sem, k0, k1, k2, k3, k4]; try rfl) rfl ?_)
      · rw [hu]; exact ⟨rfl, hb9⟩
      · rw [hu]; exact ⟨rfl, hb9⟩
  · have d0 : decide ((t.length : Int) < s.length) = false := decide_eq_false (by omega)
    rw [hhe hlt, if_neg (by simp)]
    clear hhd hhe
    go_enter Tryz.func68, Tryz.ntmps68
    go_wp2_with (first | (go_at_call 44; with_reducible refine ((HS _).out).mono ?_; rintro e w' ⟨rfl, hb1⟩; obtain ⟨hg1, hb2⟩ := new_kept hb1; clear hb1) | (go_at_call 89; rcases hnum.out _ hb2 with ⟨u, hu, HP⟩ | ⟨hu, HP⟩; (with_reducible refine (HP.out).mono ?_; rintro e w'' ⟨rfl, hb3⟩; have hg2 := (hb3.block _ (Array.getElem?_eq_some_iff.1 hg1).1).trans hg1; have hb4 := hb2.trans (hb3.mono hb2.size); clear hg1 hb2 hb3 hnum); rotate_left; (with_reducible refine (HP.out).mono ?_; rintro e w'' ⟨⟨u, ty, a, rfl⟩, hb3⟩; have hg2 := (hb3.block _ (Array.getElem?_eq_some_iff.1 hg1).1).trans hg1; have hb4 := hb2.trans (hb3.mono hb2.size); clear hg1 hb2 hb3 hnum); rotate_left) | (refine wpList_store_row rfl _ _ _ rfl w.heap.size #[.int .i64 2, .string ⟨t.toArray⟩, .int .u64 u, .int .i64 0, .int .i64 0] rfl rfl _ _ hg2 (by kernel_rfl) rfl (by kernel_rfl) ?_; obtain ⟨w9, hw9, hr9, k0, k1, k2, k3, k4, hb9⟩ := row5 hg2 hb4 (Nat.le_refl _) (.int .i64 2) (.string ⟨t.toArray⟩) (.int .u64 u) (.int .i64 0) (.int .i64 0); rw [hw9]; clear hw9 hg2 hb4) | (refine wpList_store_row rfl _ _ _ rfl w.heap.size #[.int .i64 0, .string ⟨#[]⟩, .int .u64 0, .int .i64 0, .int .i64 0] rfl rfl _ _ hg2 (by kernel_rfl) rfl (by kernel_rfl) ?_; obtain ⟨w9, hw9, hr9, k0, k1, k2, k3, k4, hb9⟩ := row5 hg2 hb4 (Nat.le_refl _) (.int .i64 0) (.string ⟨#[]⟩) (.int .u64 0) (.int .i64 0) (.int .i64 0); rw [hw9]; clear hw9 hg2 hb4))
    all_goals (refine bodyPost_ret (by simp [results, Tryz.results68, go_sem, k0, k1, k2, k3, k4]; try rfl) rfl ?_)
    · rw [hu]; exact ⟨rfl, hb9⟩
    · rw [hu]; exact ⟨rfl, hb9⟩

end Go.Proofs.YtmekcccmnkgodaaGreatDoor
