import Derived.Test.YtojojcefopbihabDoorLRefS
import Derived.Test.YtojojcefopbihabDoorLSee
import Derived.Test.YtojojcefopbihabDoorLSame
namespace Go.Proofs.YtojojcefopbihabDoor
open Go.ChangeShapes Go.WideShapes Go.ChangeAt Go.RowKit
set_option linter.unusedVariables false

theorem scan_codes (s : Bs) (line col cnt : Nat) (e : Er) (h : (scan s line col cnt).2 = some e) : e.code ≠ 0 := by
  fun_induction scan s line col cnt with
  | case1 => cases h
  | case2 line col cnt c r hc ih => exact ih h
  | case3 line col cnt c r h1 h2 ih => exact ih h
  | case4 line col cnt c r h1 h2 h3 ih => exact ih h
  | case5 line col cnt c r h1 h2 h3 e' hrd =>
    cases h
    have := rd_code _ _ hrd
    simp only
    omega
  | case6 => cases h; simp
  | case7 line col cnt c r h1 h2 h3 k t v hrd hne ih => exact ih h
theorem scanT_codes (s : Bs) (e : Er) (h : (scanT s).2 = some e) : e.code ≠ 0 := by
  unfold scanT at h
  split at h
  · cases h; decide
  · exact scan_codes _ _ _ _ e h

set_option maxRecDepth 100000 in
set_option maxHeartbeats 2000000 in
theorem law_scans (src : Bs) (hmx : src.length ≤ maxLen) (w : World) (g : Gr w) :
    Calls Tryd.prog 7 #[.string ⟨src.toArray⟩] w fun e w' => e = .returned (.bool true) ∧ Below w.heap.size w w' := by
  have hcode := scanT_codes src
  have hcnt := scanT_count src
  have H1 := scan_any src hmx w g
  have H2 := rscan_any src hmx
  generalize scanT src = R at *
  cases hR : R.2 with
  | none =>
    have H1 : Hid (Calls Tryd.prog 10 #[.string ⟨src.toArray⟩] w fun e w' => ∃ p m c, e = .returned (.tuple #[.slice p m c, .nilIface]) ∧ w'.ownsRow w.heap.size 30 5 (.slice p m c) R.1.length (tksCells R.1) ∧ Below w.heap.size w w') := by
      refine H1.mono ?_
      rintro e w' ⟨hb, ⟨_, v, rfl, ho⟩ | ⟨er, b, hx, _⟩⟩
      · obtain ⟨p, m, c, rfl⟩ := own_slice ho
        exact ⟨p, m, c, rfl, ho, hb⟩
      · rw [hR] at hx; cases hx
    have H2 : ∀ w', Hid (Calls Tryd.prog 19 #[.string ⟨src.toArray⟩] w' fun e w'' => ∃ p m c, e = .returned (.tuple #[.slice p m c, .int .i64 0, .int .i64 0, .int .i64 0]) ∧ w''.ownsRow w'.heap.size 30 5 (.slice p m c) R.1.length (tksCells R.1) ∧ Below w'.heap.size w' w'') := fun w' => by
      refine (H2 w').mono ?_
      rintro e w'' ⟨hb, v, rfl, ho⟩
      obtain ⟨p, m, c, rfl⟩ := own_slice ho
      exact ⟨p, m, c, by rw [hR]; rfl, ho, hb⟩
    have H3 : ∀ va vb ba bb w', w'.ownsRow ba 30 5 va R.1.length (tksCells R.1) → w'.ownsRow bb 30 5 vb R.1.length (tksCells R.1) → Hid (Calls Tryd.prog 18 #[va, vb] w' fun e w'' => e = .returned (.bool true) ∧ Below w'.heap.size w' w'') := fun va vb ba bb w' h1 h2 => same_yes va vb ba bb R.1 hcnt w' h1 h2
    clear hcode hcnt g hR
    go_enter Tryd.func7, Tryd.ntmps7
    go_wp2_with (first | (go_at_call 10; (with_reducible refine (H1.out).mono ?_); rintro e w1 ⟨p1, m1, c1, rfl, o1, b1⟩) | (go_at_call 19; (with_reducible refine ((H2 _).out).mono ?_); rintro e w2 ⟨p2, m2, c2, rfl, o2, b2⟩) | (go_at_call 18; (with_reducible refine ((H3 _ _ _ _ _ (own_more o1 b2) o2).out).mono ?_); rintro e w3 ⟨rfl, b3⟩))
    go_ret
    exact ⟨rfl, (b1.trans (b2.mono b1.size)).trans (b3.mono (b1.trans (b2.mono b1.size)).size)⟩
  | some er =>
    have hc0 := hcode er hR
    have d0 : ((er.code : Int) == 0) = false := by simp; omega
    have H1 : Hid (Calls Tryd.prog 10 #[.string ⟨src.toArray⟩] w fun e w' => ∃ b, e = .returned (.tuple #[.slice none 0 0, .iface 54 (.pointer (some ⟨b, 0, none⟩))]) ∧ w'.heap[b]? = some (posObj er.code er.line er.col) ∧ Below w.heap.size w w') := by
      refine H1.mono ?_
      rintro e w' ⟨hb, ⟨hx, _⟩ | ⟨er', b, hx, rfl, hp⟩⟩
      · rw [hR] at hx; cases hx
      · rw [hR] at hx
        cases hx
        exact ⟨b, rfl, hp, hb⟩
    have H2 : ∀ w', Hid (Calls Tryd.prog 19 #[.string ⟨src.toArray⟩] w' fun e w'' => ∃ p m c, e = .returned (.tuple #[.slice p m c, .int .i64 er.code, .int .i64 er.line, .int .i64 er.col]) ∧ Below w'.heap.size w' w'') := fun w' => by
      refine (H2 w').mono ?_
      rintro e w'' ⟨hb, v, rfl, ho⟩
      obtain ⟨p, m, c, rfl⟩ := own_slice ho
      exact ⟨p, m, c, by rw [hR]; rfl, hb⟩
    have H3 : ∀ b w', w'.heap[b]? = some (posObj er.code er.line er.col) → Hid (Calls Tryd.prog 20 #[.iface 54 (.pointer (some ⟨b, 0, none⟩)), .int .i64 er.code, .int .i64 er.line, .int .i64 er.col] w' fun e w'' => e = .returned (.bool true) ∧ Below w'.heap.size w' w'') := fun b w' hp => told_err er.code hc0 er.line er.col b w' hp
    clear hcode hcnt g hR
    go_enter Tryd.func7, Tryd.ntmps7
    go_wp2_with (first | (go_at_call 10; (with_reducible refine (H1.out).mono ?_); rintro e w1 ⟨b0, rfl, o1, b1⟩) | (go_at_call 19; (with_reducible refine ((H2 _).out).mono ?_); rintro e w2 ⟨p2, m2, c2, rfl, b2⟩) | (go_at_call 20; (with_reducible refine ((H3 _ _ ((b2.block _ (Array.getElem?_eq_some_iff.1 o1).1).trans o1)).out).mono ?_); rintro e w3 ⟨rfl, b3⟩))
    go_ret
    exact ⟨rfl, (b1.trans (b2.mono b1.size)).trans (b3.mono (b1.trans (b2.mono b1.size)).size)⟩
end Go.Proofs.YtojojcefopbihabDoor
