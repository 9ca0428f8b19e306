import Derived.Test.YtidffddmlaedcaaDoorLPlace
import Derived.Test.YtidffddmlaedcaaDoorLMk
import Derived.Test.YtidffddmlaedcaaDoorLRef
namespace Go.Proofs.YtidffddmlaedcaaDoor
open Go.ChangeShapes Go.WideShapes Go.ChangeAt Go.RowKit
set_option linter.unusedVariables false

def atV (i : Nat) : Option Nat → Int
  | some p => ((i + p : Nat) : Int)
  | none => -1
theorem atV_map (i : Nat) (o : Option Nat) : atV i (o.map (· + 1)) = atV (i + 1) o := by
  cases o with
  | none => rfl
  | some p => simp [atV]; omega
theorem drop_at (s : Bs) (i : Nat) (h : i < s.length) : s.drop i = s[i] :: s.drop (i + 1) := List.drop_eq_getElem_cons h

set_option maxRecDepth 100000 in
set_option maxHeartbeats 2000000 in
theorem place_any (s : Bs) (hl : s.length ≤ 65536) (line col : Int) (w : World) :
    Calls Tryd.prog 15 #[.string ⟨s.toArray⟩, .int .i64 line, .int .i64 col] w fun e w' => e = .returned (.int .i64 (atV 0 (plc line col s 1 1))) ∧ w' = w := by
  have hsz : (⟨s.toArray⟩ : ByteArray).size = s.length := by simp [ByteArray.size]
  go_enter Tryd.func15, Tryd.ntmps15
  go_wp2
  go_loop [7, 8, 9] (fun v7 v8 v9 => ∃ i l c : Nat, v7 = .int .i64 i ∧ v8 = .int .i64 l ∧ v9 = .int .i64 c ∧ i ≤ s.length ∧ l ≤ i + 1 ∧ c ≤ i + 1 ∧ Hid (atV 0 (plc line col s 1 1) = atV i (plc line col (s.drop i) l c))) (fun v7 _ _ => s.length - (intOf v7).toNat)
  case atStart => exact ⟨0, 1, 1, rfl, rfl, rfl, Nat.zero_le _, by omega, by omega, rfl⟩
  case round =>
    obtain ⟨i, l, c, rfl, rfl, rfl, hi, hl1, hc1, hp⟩ := hrel
    have hb1 : i ≤ 65536 := by omega
    have hb2 : l ≤ 65537 := by omega
    have hb3 : c ≤ 65537 := by omega
    by_cases hlt : i < s.length
    · have hltb : i < (⟨s.toArray⟩ : ByteArray).size := by omega
      obtain ⟨x, hx⟩ : ∃ x, s[i] = x := ⟨_, rfl⟩
      have hg : ((⟨s.toArray⟩ : ByteArray)[i]'hltb) = x := by rw [← hx]; rfl
      have dl : decide ((i : Int) < s.length) = true := decide_eq_true (by omega)
      have hd : s.drop i = x :: s.drop (i + 1) := by rw [drop_at s i hlt, hx]
      rw [hd] at hp
      simp only [plc] at hp
      by_cases hgo : (l : Int) < line ∨ (l : Int) = line ∧ (c : Int) < col
      · rw [if_pos hgo, atV_map] at hp
        have hm := meas hlt
        by_cases h10 : x.toNat = 10
        · have e1 : ((x.toNat : Int) == 10) = true := by simp; omega
          rw [if_pos h10] at hp
          have fin : ∃ i' l' c' : Nat, Value.int .i64 (((i + 1 : Nat) : Int)) = .int .i64 i' ∧ Value.int .i64 (((l + 1 : Nat) : Int)) = .int .i64 l' ∧ Value.int .i64 1 = .int .i64 c' ∧ i' ≤ s.length ∧ l' ≤ i' + 1 ∧ c' ≤ i' + 1 ∧ Hid (atV 0 (plc line col s 1 1) = atV i' (plc line col (s.drop i') l' c')) := ⟨i + 1, l + 1, 1, rfl, rfl, rfl, hlt, by omega, by omega, hp⟩
          clear hp hx hd
          rcases hgo with h1 | ⟨h2, h3⟩
          · have d1 : decide ((l : Int) < line) = true := decide_eq_true h1
            clear h1
            go_wp2
            exact ⟨fin, hm⟩
          · subst h2
            have d3 : decide ((c : Int) < col) = true := decide_eq_true h3
            clear h3
            go_wp2
            exact ⟨fin, hm⟩
        · have e1 : ((x.toNat : Int) == 10) = false := by simp; omega
          rw [if_neg h10] at hp
          have fin : ∃ i' l' c' : Nat, Value.int .i64 (((i + 1 : Nat) : Int)) = .int .i64 i' ∧ Value.int .i64 ((l : Int)) = .int .i64 l' ∧ Value.int .i64 (((c + 1 : Nat) : Int)) = .int .i64 c' ∧ i' ≤ s.length ∧ l' ≤ i' + 1 ∧ c' ≤ i' + 1 ∧ Hid (atV 0 (plc line col s 1 1) = atV i' (plc line col (s.drop i') l' c')) := ⟨i + 1, l, c + 1, rfl, rfl, rfl, hlt, by omega, by omega, hp⟩
          clear hp hx hd
          rcases hgo with h1 | ⟨h2, h3⟩
          · have d1 : decide ((l : Int) < line) = true := decide_eq_true h1
            clear h1
            go_wp2
            exact ⟨fin, hm⟩
          · subst h2
            have d3 : decide ((c : Int) < col) = true := decide_eq_true h3
            clear h3
            go_wp2
            exact ⟨fin, hm⟩
      · rw [if_neg hgo] at hp
        by_cases h2 : (l : Int) = line
        · subst h2
          have d3 : decide ((c : Int) < col) = false := decide_eq_false (by omega)
          by_cases h4 : (c : Int) = col
          · subst h4
            rw [if_pos ⟨rfl, rfl⟩] at hp
            have fin : Hid (atV 0 (plc _ _ s 1 1) = (i : Int)) := hp
            clear hp hx hd hgo
            go_wp2
            go_ret
            exact ⟨congrArg (fun z => Ending.returned (Value.int .i64 z)) fin.out.symm, rfl⟩
          · have d4 : ((c : Int) == col) = false := by simp; omega
            rw [if_neg (fun h => h4 h.2)] at hp
            have fin : Hid (atV 0 (plc _ _ s 1 1) = -1) := hp
            clear hp hx hd hgo
            go_wp2
            go_ret
            exact ⟨congrArg (fun z => Ending.returned (Value.int .i64 z)) fin.out.symm, rfl⟩
        · have d1 : decide ((l : Int) < line) = false := decide_eq_false (by omega)
          have d2 : ((l : Int) == line) = false := by simp; omega
          rw [if_neg (fun h => h2 h.1)] at hp
          have fin : Hid (atV 0 (plc _ _ s 1 1) = -1) := hp
          clear hp hx hd hgo h2
          go_wp2
          go_ret
          exact ⟨congrArg (fun z => Ending.returned (Value.int .i64 z)) fin.out.symm, rfl⟩
    · have dl : decide ((i : Int) < s.length) = false := decide_eq_false (by omega)
      rw [List.drop_eq_nil_of_le (by omega)] at hp
      simp only [plc] at hp
      by_cases h2 : (l : Int) = line
      · subst h2
        by_cases h4 : (c : Int) = col
        · subst h4
          rw [if_pos ⟨rfl, rfl⟩] at hp
          have fin : Hid (atV 0 (plc _ _ s 1 1) = (i : Int)) := hp
          clear hp
          go_wp2
          go_ret
          exact ⟨congrArg (fun z => Ending.returned (Value.int .i64 z)) fin.out.symm, rfl⟩
        · have d4 : ((c : Int) == col) = false := by simp; omega
          rw [if_neg (fun h => h4 h.2)] at hp
          have fin : Hid (atV 0 (plc _ _ s 1 1) = -1) := hp
          clear hp
          go_wp2
          go_ret
          exact ⟨congrArg (fun z => Ending.returned (Value.int .i64 z)) fin.out.symm, rfl⟩
      · have d2 : ((l : Int) == line) = false := by simp; omega
        rw [if_neg (fun h => h2 h.1)] at hp
        have fin : Hid (atV 0 (plc _ _ s 1 1) = -1) := hp
        clear hp h2
        go_wp2
        go_ret
        exact ⟨congrArg (fun z => Ending.returned (Value.int .i64 z)) fin.out.symm, rfl⟩

set_option maxRecDepth 100000 in
set_option maxHeartbeats 2000000 in
theorem open_any (s : Bs) (hl : s.length ≤ 65536) (w : World) :
    Calls Tryd.prog 17 #[.string ⟨s.toArray⟩] w fun e w' => e = .returned (.bool (openN false s)) ∧ w' = w := by
  have hsz : (⟨s.toArray⟩ : ByteArray).size = s.length := by simp [ByteArray.size]
  go_enter Tryd.func17, Tryd.ntmps17
  go_wp2
  go_loop [3, 4] (fun v3 v4 => ∃ (b : Bool) (i : Nat), v3 = .bool b ∧ v4 = .int .i64 i ∧ i ≤ s.length ∧ Hid (openN false s = openN b (s.drop i))) (fun _ v4 => s.length - (intOf v4).toNat)
  case atStart => exact ⟨false, 0, rfl, rfl, Nat.zero_le _, rfl⟩
  case round =>
    obtain ⟨b, i, rfl, rfl, hi, hp⟩ := hrel
    have hb1 : i ≤ 65536 := by omega
    by_cases hlt : i < s.length
    · have hltb : i < (⟨s.toArray⟩ : ByteArray).size := by omega
      obtain ⟨x, hx⟩ : ∃ x, s[i] = x := ⟨_, rfl⟩
      have hg : ((⟨s.toArray⟩ : ByteArray)[i]'hltb) = x := by rw [← hx]; rfl
      have dl : decide ((i : Int) < s.length) = true := decide_eq_true (by omega)
      have hd : s.drop i = x :: s.drop (i + 1) := by rw [drop_at s i hlt, hx]
      rw [hd] at hp
      simp only [openN] at hp
      have hm := meas hlt
      by_cases h10 : x.toNat = 10
      · have e1 : ((x.toNat : Int) == 10) = true := by simp; omega
        rw [if_pos h10] at hp
        clear hx hd h10
        go_wp2
        exact ⟨⟨false, i + 1, rfl, rfl, hlt, hp⟩, hm⟩
      · have e1 : ((x.toNat : Int) == 10) = false := by simp; omega
        rw [if_neg h10] at hp
        by_cases h35 : x.toNat = 35
        · have e2 : ((x.toNat : Int) == 35) = true := by simp; omega
          rw [if_pos h35] at hp
          clear hx hd h10 h35
          go_wp2
          exact ⟨⟨true, i + 1, rfl, rfl, hlt, hp⟩, hm⟩
        · have e2 : ((x.toNat : Int) == 35) = false := by simp; omega
          rw [if_neg h35] at hp
          clear hx hd h10 h35
          go_wp2
          exact ⟨⟨b, i + 1, rfl, rfl, hlt, hp⟩, hm⟩
    · have dl : decide ((i : Int) < s.length) = false := decide_eq_false (by omega)
      rw [List.drop_eq_nil_of_le (by omega)] at hp
      have fin : Hid (openN false s = b) := hp
      clear hp
      go_wp2
      go_ret
      exact ⟨congrArg (fun z => Ending.returned (Value.bool z)) fin.out.symm, rfl⟩

set_option maxRecDepth 100000 in
set_option maxHeartbeats 2000000 in
theorem bare_any (s : Bs) (hl : s.length ≤ 65536) (w : World) :
    Calls Tryd.prog 16 #[.string ⟨s.toArray⟩] w fun e w' => e = .returned (.bool (bareN false s)) ∧ w' = w := by
  have hsz : (⟨s.toArray⟩ : ByteArray).size = s.length := by simp [ByteArray.size]
  go_enter Tryd.func16, Tryd.ntmps16
  go_wp2
  go_loop [3, 4] (fun v3 v4 => ∃ (b : Bool) (i : Nat), v3 = .bool b ∧ v4 = .int .i64 i ∧ i ≤ s.length ∧ Hid (bareN false s = bareN b (s.drop i))) (fun _ v4 => s.length - (intOf v4).toNat)
  case atStart => exact ⟨false, 0, rfl, rfl, Nat.zero_le _, rfl⟩
  case round =>
    obtain ⟨b, i, rfl, rfl, hi, hp⟩ := hrel
    have hb1 : i ≤ 65536 := by omega
    by_cases hlt : i < s.length
    · have hltb : i < (⟨s.toArray⟩ : ByteArray).size := by omega
      obtain ⟨x, hx⟩ : ∃ x, s[i] = x := ⟨_, rfl⟩
      have hg : ((⟨s.toArray⟩ : ByteArray)[i]'hltb) = x := by rw [← hx]; rfl
      have dl : decide ((i : Int) < s.length) = true := decide_eq_true (by omega)
      have hd : s.drop i = x :: s.drop (i + 1) := by rw [drop_at s i hlt, hx]
      rw [hd] at hp
      simp only [bareN] at hp
      have hm := meas hlt
      by_cases h10 : x.toNat = 10
      · have e1 : ((x.toNat : Int) == 10) = true := by simp; omega
        rw [if_pos h10] at hp
        clear hx hd h10
        go_wp2
        exact ⟨⟨false, i + 1, rfl, rfl, hlt, hp⟩, hm⟩
      · have e1 : ((x.toNat : Int) == 10) = false := by simp; omega
        rw [if_neg h10] at hp
        cases b with
        | true =>
          rw [if_pos (.inl rfl)] at hp
          clear hx hd h10
          go_wp2
          exact ⟨⟨true, i + 1, rfl, rfl, hlt, hp⟩, hm⟩
        | false =>
          by_cases h32 : x.toNat = 32
          · have e2 : ((x.toNat : Int) == 32) = true := by simp; omega
            rw [if_pos (.inr (.inl h32))] at hp
            clear hx hd h10 h32
            go_wp2
            exact ⟨⟨false, i + 1, rfl, rfl, hlt, hp⟩, hm⟩
          · have e2 : ((x.toNat : Int) == 32) = false := by simp; omega
            by_cases h9 : x.toNat = 9
            · have e3 : ((x.toNat : Int) == 9) = true := by simp; omega
              rw [if_pos (.inr (.inr (.inl h9)))] at hp
              clear hx hd h10 h32 h9
              go_wp2
              exact ⟨⟨false, i + 1, rfl, rfl, hlt, hp⟩, hm⟩
            · have e3 : ((x.toNat : Int) == 9) = false := by simp; omega
              by_cases h13 : x.toNat = 13
              · have e4 : ((x.toNat : Int) == 13) = true := by simp; omega
                rw [if_pos (.inr (.inr (.inr h13)))] at hp
                clear hx hd h10 h32 h9 h13
                go_wp2
                exact ⟨⟨false, i + 1, rfl, rfl, hlt, hp⟩, hm⟩
              · have e4 : ((x.toNat : Int) == 13) = false := by simp; omega
                rw [if_neg (by simp; omega)] at hp
                by_cases h35 : x.toNat = 35
                · have e5 : ((x.toNat : Int) == 35) = true := by simp; omega
                  rw [if_pos h35] at hp
                  clear hx hd h10 h32 h9 h13 h35
                  go_wp2
                  exact ⟨⟨true, i + 1, rfl, rfl, hlt, hp⟩, hm⟩
                · have e5 : ((x.toNat : Int) == 35) = false := by simp; omega
                  rw [if_neg h35] at hp
                  have fin : Hid (bareN false s = false) := hp
                  clear hx hd h10 h32 h9 h13 h35 hp
                  go_wp2
                  go_ret
                  exact ⟨congrArg (fun z => Ending.returned (Value.bool z)) fin.out.symm, rfl⟩
    · have dl : decide ((i : Int) < s.length) = false := decide_eq_false (by omega)
      rw [List.drop_eq_nil_of_le (by omega)] at hp
      have fin : Hid (bareN false s = true) := by
        show _ = _
        have h : bareN false s = bareN b [] := hp
        rw [h]; unfold bareN; rfl
      clear hp
      go_wp2
      go_ret
      exact ⟨congrArg (fun z => Ending.returned (Value.bool z)) fin.out.symm, rfl⟩

set_option maxRecDepth 100000 in
set_option maxHeartbeats 2000000 in
theorem inNameL_any (r : Nat) (w : World) : Calls Tryd.prog 18 #[.int .u8 r] w fun e w' => e = .returned (.bool (inN r)) ∧ w' = w := by
  go_enter Tryd.func18, Tryd.ntmps18
  go_wp2
  all_goals go_ret
  all_goals (refine ⟨congrArg (fun b => Ending.returned (Value.bool b)) ?_, rfl⟩; rw [Bool.eq_iff_iff]; simp [inN, isL, isD]; try omega)
end Go.Proofs.YtidffddmlaedcaaDoor
