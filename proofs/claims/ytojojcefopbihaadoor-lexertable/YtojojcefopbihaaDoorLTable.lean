import Derived.Test.YtojojcefopbihaaDoorLScan
import Derived.Test.YtojojcefopbihaaDoorLRef2
namespace Go.Proofs.YtojojcefopbihaaDoor
open Go.ChangeShapes Go.WideShapes Go.ChangeAt Go.RowKit
set_option linter.unusedVariables false

def rdIs (r : Rd) (k : Nat) (t : Bs) : Bool := match r with | .ok k' t' v => k' == k && t' == t && v == 0 | .err _ => false
theorem rdIs_eq {r : Rd} {k : Nat} {t : Bs} (h : rdIs r k t = true) : r = .ok k t 0 := by
  cases r with
  | err e => cases h
  | ok k' t' v =>
    simp only [rdIs, Bool.and_eq_true, beq_iff_eq] at h
    obtain ⟨⟨rfl, rfl⟩, rfl⟩ := h
    rfl
def startB (c : UInt8) : Bool := c.toNat != 10 && c.toNat != 32 && c.toNat != 9 && c.toNat != 13 && c.toNat != 35
/-- the table, kind by kind -/
def tabOK (k : Nat) : Bool := (spl k).isEmpty || (rdIs (rd (spl k)) k (spl k) && (match spl k with | c :: _ => startB c | [] => false) && (wordP (spl k) == if k < 50 then k else 0) && decide ((spl k).length ≤ 31))
theorem tab_all : (List.range 80).all tabOK = true := by decide +kernel
theorem tab_at (k : Nat) (h : k < 80) : tabOK k = true := by
  have := List.all_eq_true.1 tab_all k (List.mem_range.2 h)
  exact this
theorem tab_scan (k : Nat) (h : k < 80) (hne : spl k ≠ []) : scanT (spl k) = ([⟨k, spl k, 0, 1, 1⟩], none) ∧ wordP (spl k) = (if k < 50 then k else 0) ∧ (spl k).length ≤ 31 := by
  have ht := tab_at k h
  unfold tabOK at ht
  have h0 : (spl k).isEmpty = false := by cases hh : spl k with | nil => exact absurd hh hne | cons c r => rfl
  rw [h0] at ht
  simp only [Bool.false_or, Bool.and_eq_true, beq_iff_eq, decide_eq_true_eq] at ht
  obtain ⟨⟨⟨h1, h2⟩, h3⟩, h4⟩ := ht
  refine ⟨?_, h3, h4⟩
  have hr := rdIs_eq h1
  rw [scanT_fits _ (by omega)]
  obtain ⟨s, hs⟩ : ∃ s, spl k = s := ⟨_, rfl⟩
  rw [hs] at hr h2 hne ⊢
  cases s with
  | nil => exact absurd rfl hne
  | cons c r =>
    simp only [startB, Bool.and_eq_true, bne_iff_ne] at h2
    rw [scan_ok c r 1 1 0 k 0 (c :: r) ⟨h2.1.1.1.1, h2.1.1.1.2, h2.1.1.2, h2.1.2, h2.2⟩ hr (by omega)]
    have hd : r.drop ((c :: r).length - 1) = [] := by simp
    rw [hd, scan_nil]
    rfl

/-- how many kinds below m - 2 have a spelling -/
def cntS (m : Nat) : Nat := ((List.range m).filter fun k : Nat => !(splI ((k : Int) - 2)).isEmpty).length
theorem cntS_all : cntS 102 = 60 := by decide +kernel
theorem cntS_no (m : Nat) (h : splI ((m : Int) - 2) = []) : cntS (m + 1) = cntS m := by
  unfold cntS
  rw [List.range_succ, List.filter_append]
  simp [h]
theorem cntS_yes (m : Nat) (h : splI ((m : Int) - 2) ≠ []) : cntS (m + 1) = cntS m + 1 := by
  unfold cntS
  rw [List.range_succ, List.filter_append]
  simp [h]
theorem cntS_le (m : Nat) : cntS m ≤ m := by
  unfold cntS
  exact Nat.le_trans (List.length_filter_le _ _) (by simp)

theorem row_cells {W : World} {base : Nat} {e : TypeId} {size : Nat} {v : Value} {k : Nat} {xs : List Value} (h : W.ownsRow base e size v (k + 1) xs) : ∃ g cap, v = .slice (some ⟨g, 0, none⟩) (k + 1) cap ∧ k + 1 ≤ cap ∧ ∀ j, j < (k + 1) * size → W.cell? ⟨g, j, none⟩ = xs[j]? := by
  rcases h.2 with ⟨rfl, h0⟩ | ⟨g, cap, cur, rfl, _, hh, hc, _, hs, ht⟩
  · omega
  · refine ⟨g, cap, rfl, hc, fun j hj => ?_⟩
    unfold World.cell?
    rw [hh]
    have : xs[j]? = cur.toList[j]? := by rw [← ht, List.getElem?_take_of_lt hj]
    rw [this]
    simp

set_option maxRecDepth 100000 in
set_option maxHeartbeats 2000000 in
theorem law_table (w : World) (g : Gr w) : Calls Tryd.prog 5 #[] w fun e w' => e = .returned (.bool true) ∧ Below w.heap.size w w' := by
  go_enter Tryd.func5, Tryd.ntmps5
  go_wp2
  go_loopw [1, 2] (fun v1 v2 wr => ∃ m : Nat, v1 = .int .i64 (cntS m) ∧ v2 = .int .i64 ((m : Int) - 2) ∧ m ≤ 102 ∧ Below w.heap.size w wr) (fun _ v2 _ => (100 - intOf v2).toNat)
  case atStart => exact ⟨0, rfl, rfl, by omega, Below.refl _ _⟩
  case round =>
    obtain ⟨m, rfl, rfl, hm, hb⟩ := hrel
    by_cases hlt : m = 102
    · subst hlt
      have hc := cntS_all
      rw [hc]
      go_wp2
      go_ret
      exact ⟨rfl, hb⟩
    · have d0 : decide ((m : Int) - 2 < 100) = true := decide_eq_true (by omega)
      have HM : Hid (Calls Tryd.prog 9 #[.int .i64 ((m : Int) - 2)] wr fun e w' => e = .returned (.string ⟨(splI ((m : Int) - 2)).toArray⟩) ∧ w' = wr) := mark_any _ wr (g.keep hb).sp
      have r1 : ((100 : Int) - ((m : Int) - 2 + 1)).toNat < ((100 : Int) - ((m : Int) - 2)).toNat := by omega
      have r2 : m + 1 ≤ 102 := by omega
      have HK : Hid ((m : Int) - 2 + 1 = ((m + 1 : Nat) : Int) - 2) := by show _ = _; omega
      by_cases he : splI ((m : Int) - 2) = []
      · have hcn := cntS_no m he
        rw [he] at HM
        have HC : Hid (cntS (m + 1) = cntS m) := hcn
        clear hcn he
        go_wp2_with (go_at_call 9; with_reducible refine (HM.out).mono ?_; rintro e w' ⟨rfl, hw⟩; subst w')
        exact ⟨⟨m + 1, by rw [HC.out], congrArg (Value.int .i64) HK.out, r2, hb⟩, r1⟩
      · obtain ⟨k, hk, hk80, hk10⟩ : ∃ k : Nat, (m : Int) - 2 = k ∧ k < 80 ∧ splI ((m : Int) - 2) = spl k := by
          by_cases h2 : 0 ≤ (m : Int) - 2 ∧ (m : Int) - 2 < 80
          · refine ⟨((m : Int) - 2).toNat, by omega, by omega, ?_⟩
            unfold splI
            rw [if_pos h2]
          · exact absurd (by unfold splI; rw [if_neg h2]) he
        have hcn := cntS_yes m he
        have hle := cntS_le m
        rw [hk10] at he HM
        obtain ⟨hs1, hs2, hs3⟩ := tab_scan k hk80 he
        have hmx : (spl k).length ≤ maxLen := Nat.le_trans hs3 (by unfold maxLen; omega)
        have HS0 := scan_any (spl k) hmx wr (g.keep hb)
        rw [hs1] at HS0
        have HS : Hid (Calls Tryd.prog 13 #[.string ⟨(spl k).toArray⟩] wr fun e w' => ∃ cap gg, e = .returned (.tuple #[.slice (some ⟨gg, 0, none⟩) 1 cap, .nilIface]) ∧ 1 ≤ cap ∧ w'.cell? ⟨gg, 0, none⟩ = some (.int .i64 k) ∧ w'.cell? ⟨gg, 1, none⟩ = some (.string ⟨(spl k).toArray⟩) ∧ w'.cell? ⟨gg, 2, none⟩ = some (.int .u64 0) ∧ w'.cell? ⟨gg, 3, none⟩ = some (.int .i64 1) ∧ w'.cell? ⟨gg, 4, none⟩ = some (.int .i64 1) ∧ Below wr.heap.size wr w') := by
          refine HS0.mono ?_
          rintro e w' ⟨hbl, ⟨_, v, rfl, hown⟩ | ⟨er, b, hx, _⟩⟩
          · obtain ⟨gg, cap, rfl, hcap, hcells⟩ := row_cells hown
            exact ⟨cap, gg, rfl, hcap, hcells 0 (by decide), hcells 1 (by decide), hcells 2 (by decide), hcells 3 (by decide), hcells 4 (by decide), hbl⟩
          · cases hx
        have HW : ∀ w', Below w.heap.size w w' → Hid (Calls Tryd.prog 11 #[.string ⟨(spl k).toArray⟩] w' fun e w'' => e = .returned (.int .i64 (if k < 50 then k else 0 : Nat)) ∧ Below w'.heap.size w' w'') := fun w' hb' => by
          have := word_any (spl k) hmx w' (g.keep hb').sp
          rw [hs2] at this
          exact this
        have hE : (spl k).isEmpty = false := by cases hh : spl k with | nil => exact absurd hh he | cons c r => rfl
        have HC : Hid ((cntS m : Int) + 1 = (cntS (m + 1) : Int)) := by show _ = _; rw [hcn]; rfl
        rw [hk] at HM d0 r1 HK ⊢
        clear hs1 hs2 hs3 HS0 hcn hk10 he
        by_cases h50 : k < 50
        · rw [if_pos h50] at HW
          have d1 : decide ((k : Int) < 50) = true := decide_eq_true (by omega)
          go_wp2_with (first | (go_at_call 9; with_reducible refine (HM.out).mono ?_; rintro e w' ⟨rfl, hw⟩; subst w') | (go_at_call 13; (with_reducible refine (HS.out).mono ?_); rintro e w1 ⟨cap, gg, rfl, hcap, q0, q1, q2, q3, q4, hb1⟩) | (go_at_call 11; (with_reducible refine ((HW w1 (hb.trans (hb1.mono hb.size))).out).mono ?_); rintro e w2 ⟨rfl, hb2⟩))
          exact ⟨⟨m + 1, congrArg (Value.int .i64) HC.out, congrArg (Value.int .i64) HK.out, r2, (hb.trans (hb1.mono hb.size)).trans (hb2.mono (hb.trans (hb1.mono hb.size)).size)⟩, r1⟩
        · rw [if_neg h50] at HW
          have d1 : decide ((k : Int) < 50) = false := decide_eq_false (by omega)
          have d2 : decide ((50 : Int) ≤ k) = true := decide_eq_true (by omega)
          go_wp2_with (first | (go_at_call 9; with_reducible refine (HM.out).mono ?_; rintro e w' ⟨rfl, hw⟩; subst w') | (go_at_call 13; (with_reducible refine (HS.out).mono ?_); rintro e w1 ⟨cap, gg, rfl, hcap, q0, q1, q2, q3, q4, hb1⟩) | (go_at_call 11; (with_reducible refine ((HW w1 (hb.trans (hb1.mono hb.size))).out).mono ?_); rintro e w2 ⟨rfl, hb2⟩))
          exact ⟨⟨m + 1, congrArg (Value.int .i64) HC.out, congrArg (Value.int .i64) HK.out, r2, (hb.trans (hb1.mono hb.size)).trans (hb2.mono (hb.trans (hb1.mono hb.size)).size)⟩, r1⟩

end Go.Proofs.YtojojcefopbihaaDoor
