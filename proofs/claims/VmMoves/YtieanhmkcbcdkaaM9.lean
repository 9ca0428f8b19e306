import Derived.Test.YtieanhmkcbcdkaaM8
import Derived.Test.YtieanhmkcbcdkaaAdd
import Derived.Maps.AppendAt
namespace Go.Proofs.Ytieanhmkcbcdkaa
open Go.ChangeShapes Go.WideShapes Go.ChangeAt Go.RowKit
set_option linter.unusedVariables false

theorem step_append_own {P : Program} {ops : Array Oper} {o : Oper} {a : Act} {w : World} {K : Act → World → Prop} {Q : Exit → Act → World → Prop} {E : Prop}
    (hg : o.guard = none) (s x : Operand) (t : TypeId) (hop : o.op = Op.call { callee := Callee.builtin Builtin.append, args := #[s, x], argTypes := #[t, t] })
    (base : Nat) (e : TypeId) (i : TypeInfo) (z : Value) (size bytes : Nat) (ht : P.underlying t = some (.slice e)) (hi : P.info? e = some i) (hz : i.zero = some z)
    (hsize : i.size = size) (hby : i.bytes = bytes) (hzs : z.cells.size = size) (hsz : 0 < size)
    (v : Value) (n : Nat) (xs : List Value) (hs : a.eval s = v) (hown : w.ownsRow base e size v n xs)
    (ad : Addr) (m c : Nat) (news : List Value) (hx : a.eval x = .slice (some ad) m c) (hl : news.length = m * size) (hnews : ∀ j u, news[j]? = some u → w.cell? (ad.add j) = some u) (h1 : ∀ u ∈ news, u.oneCell' = true)
    (h63 : n + m ≤ maxLen) (hbytes : (n + m) * bytes ≤ 140737488355328) (hbase : base ≤ w.heap.size)
    (hK : ∀ v' w', w'.ownsRow base e size v' (n + m) (xs ++ news) → w.grownBy w' v.ownBlock → (v'.ownBlock = v.ownBlock ∨ v'.ownBlock = some w.heap.size) → K (a.put o.dst v') w') :
    if Region.wanted o (yielded ops a.tmps) = true then Oper.wp P o a w K Q else E := by
  have hw : Region.wanted o (yielded ops a.tmps) = true := by simp [Region.wanted, hg]
  rw [if_pos hw]
  obtain ⟨v', w', hr, h2, h3, h4, h5⟩ := run_append_own_at (P := P) w base t o.type e i z size bytes ht hi hz hsize hby hzs hsz v n xs hown ad m c news hl hnews h1 h63 hbytes hbase
  unfold Oper.wp execOp
  simp only [hop, resolve, invoke, builtin, Sem.run_bind, Sem.run_pure, Result.andThen_ok, List.map_toArray, List.map_cons, List.map_nil, hs, hx, hr]
  exact hK _ _ h2 h3 h5
theorem cells6 {W : World} {b : Nat} {c0 c1 c2 c3 c4 c5 : Value} {t : TypeId} (h : W.heap[b]? = some (.cells #[c0, c1, c2, c3, c4, c5] t (0, 0))) : W.cell? ⟨b, 0, none⟩ = some c0 ∧ W.cell? ⟨b, 1, none⟩ = some c1 ∧ W.cell? ⟨b, 2, none⟩ = some c2 ∧ W.cell? ⟨b, 3, none⟩ = some c3 ∧ W.cell? ⟨b, 4, none⟩ = some c4 ∧ W.cell? ⟨b, 5, none⟩ = some c5 := by
  refine ⟨?_, ?_, ?_, ?_, ?_, ?_⟩
  all_goals (unfold World.cell?; rw [h]; rfl)
def u64of (d : Int) : Int := IntKind.u64.wrap d
theorem u64of_b (d : Int) : u64ok (u64of d) := by
  unfold u64of u64ok
  simp only [IntKind.wrap, IntKind.bits, IntKind.signed]
  simp
  omega
/-- the fault of a sending -/
def sendF (cl : Cl) (M : Mc) (D T : Int) : Int :=
  if T < 0 ∨ cl.parts ≤ T then 204 else if D < 0 ∨ u64of D < cl.look then 205 else if M.on = 16 then 207 else if addE cl.time (u64of D) ≠ 0 then 206 else 0
theorem own6 (w : World) (cl : Cl) (we : World) (h : w.alloc (.cells #[.int .u64 cl.time, .int .i64 cl.src, .int .u64 cl.seq, .int .i64 cl.dst, .int .i64 cl.kind, .int .i64 cl.data] 30) = we) : Below w.heap.size w we ∧ we.heap[w.heap.size]? = some (.cells #[.int .u64 cl.time, .int .i64 cl.src, .int .u64 cl.seq, .int .i64 cl.dst, .int .i64 cl.kind, .int .i64 cl.data] 30 (0, 0)) ∧ we.heap.size = w.heap.size + 1 := by
  subst h
  exact ⟨(Below.refl _ w).alloc (Nat.le_refl _) _, World.alloc_heap_new w _, World.size_alloc w _⟩
set_option maxRecDepth 100000 in
set_option maxHeartbeats 4000000 in
theorem send_bad (w0 w : World) (base mb nw : Nat) (C : Nat → Value) (M : Mc) (cl : Cl) (code : Value) (hC : CC C cl code) (kind : Int) (h : MW w0 w base mb nw C M) (hh : 3 ≤ M.hi) (h64 : M.hi ≤ 64) (ht : u64ok cl.time) (hne : sendF cl M (topM M) (topM (popM M)) ≠ 0) (hov : ∃ p c, M.ov = .slice p M.on c) :
    Calls Try.prog 67 #[.pointer (some ⟨mb, 0, none⟩), .int .i64 kind] w fun e w' => e = .returned (.int .i64 (sendF cl M (topM M) (topM (popM M)))) ∧ ∃ M2, MW w0 w' base mb nw C M2 ∧ M2.used = M.used := by
  have hh1 : 0 < (popM M).hi := by show 0 < M.hi - 1; omega
  have hh2 : (popM M).hi ≤ 64 := by show M.hi - 1 ≤ 64; omega
  have hh3 : 0 < (popM (popM M)).hi := by show 0 < M.hi - 1 - 1; omega
  have hh4 : (popM (popM M)).hi ≤ 64 := by show M.hi - 1 - 1 ≤ 64; omega
  have HP1 := popW w0 w base mb nw C M h (by omega) h64
  have hu := u64of_b (topM M)
  have HA := fun W => add_any cl.time (u64of (topM M)) ht hu W
  have hlt := h.box.lt.1
  generalize hD : topM M = D at *
  generalize hT : topM (popM M) = T at *
  generalize hX : topM (popM (popM M)) = X at *
  obtain ⟨vp, vc, hov⟩ := hov
  have eU : IntKind.u64.wrap D = u64of D := rfl
  by_cases c1 : T < 0
  · have hv : sendF cl M D T = 204 := by unfold sendF; rw [if_pos (.inl c1)]
    rw [hv]
    clear hv hne
    go_enter Try.func67, Try.ntmps67
    go_wp2_with (first | (go_at_call 54; (first | ((with_reducible refine HP1.mono ?_); rintro e w1 ⟨rfl, o1, m1⟩; have HP2 := popW w0 w1 base mb nw C (popM M) m1 hh1 hh2; rw [hT] at HP2; clear HP1) | ((with_reducible refine HP2.mono ?_); rintro e w2 ⟨rfl, o2, m2⟩; have HP3 := popW w0 w2 base mb nw C (popM (popM M)) m2 hh3 hh4; rw [hX] at HP3; clear HP2) | ((with_reducible refine HP3.mono ?_); rintro e w3 ⟨rfl, o3, m3⟩; clear HP3; have s1 := m3.fix (k := 1) (by decide) hC.time; have s2 := m3.fix (k := 2) (by decide) hC.src; have s3 := m3.fix (k := 3) (by decide) hC.seq; have s4 := m3.fix (k := 4) (by decide) hC.dst; have s5 := m3.fix (k := 5) (by decide) hC.kind; have s6 := m3.fix (k := 6) (by decide) hC.data; obtain ⟨we, hwe⟩ : ∃ we, w3.alloc (.cells #[.int .u64 cl.time, .int .i64 cl.src, .int .u64 cl.seq, .int .i64 cl.dst, .int .i64 cl.kind, .int .i64 cl.data] 30) = we := ⟨_, rfl⟩; obtain ⟨hbe, hbx, hse⟩ := own6 w3 cl we hwe; have me := m3.later hbe; have t11 := me.fix (k := 11) (by decide) hC.parts; have t10 := me.fix (k := 10) (by decide) hC.look; have t155 : we.cell? ⟨mb, 155, none⟩ = some (.slice vp M.on vc) := (me.box.cell 155 (by omega)).trans (congrArg some hov); have hsz3 : w3.heap.size = w.heap.size := (by rw [o3.size, o2.size, o1.size]); obtain ⟨x0, x1, x2, x3, x4, x5⟩ := cells6 hbx; have y0 := x0; rw [← hwe] at y0; have HWE : Hid (w3.alloc (.cells #[.int .u64 cl.time, .int .i64 cl.src, .int .u64 cl.seq, .int .i64 cl.dst, .int .i64 cl.kind, .int .i64 cl.data] 30) = we) := hwe; clear hwe))) | (go_at_call 73; rw [HWE.out]; (with_reducible refine (HA _).mono ?_); rintro e w4 ⟨rfl, rfl⟩))
    go_ret
    exact ⟨rfl, _, me, rfl⟩
  · by_cases c2 : cl.parts ≤ T
    · have hv : sendF cl M D T = 204 := by unfold sendF; rw [if_pos (.inr c2)]
      rw [hv]
      clear hv hne
      go_enter Try.func67, Try.ntmps67
      go_wp2_with (first | (go_at_call 54; (first | ((with_reducible refine HP1.mono ?_); rintro e w1 ⟨rfl, o1, m1⟩; have HP2 := popW w0 w1 base mb nw C (popM M) m1 hh1 hh2; rw [hT] at HP2; clear HP1) | ((with_reducible refine HP2.mono ?_); rintro e w2 ⟨rfl, o2, m2⟩; have HP3 := popW w0 w2 base mb nw C (popM (popM M)) m2 hh3 hh4; rw [hX] at HP3; clear HP2) | ((with_reducible refine HP3.mono ?_); rintro e w3 ⟨rfl, o3, m3⟩; clear HP3; have s1 := m3.fix (k := 1) (by decide) hC.time; have s2 := m3.fix (k := 2) (by decide) hC.src; have s3 := m3.fix (k := 3) (by decide) hC.seq; have s4 := m3.fix (k := 4) (by decide) hC.dst; have s5 := m3.fix (k := 5) (by decide) hC.kind; have s6 := m3.fix (k := 6) (by decide) hC.data; obtain ⟨we, hwe⟩ : ∃ we, w3.alloc (.cells #[.int .u64 cl.time, .int .i64 cl.src, .int .u64 cl.seq, .int .i64 cl.dst, .int .i64 cl.kind, .int .i64 cl.data] 30) = we := ⟨_, rfl⟩; obtain ⟨hbe, hbx, hse⟩ := own6 w3 cl we hwe; have me := m3.later hbe; have t11 := me.fix (k := 11) (by decide) hC.parts; have t10 := me.fix (k := 10) (by decide) hC.look; have t155 : we.cell? ⟨mb, 155, none⟩ = some (.slice vp M.on vc) := (me.box.cell 155 (by omega)).trans (congrArg some hov); have hsz3 : w3.heap.size = w.heap.size := (by rw [o3.size, o2.size, o1.size]); obtain ⟨x0, x1, x2, x3, x4, x5⟩ := cells6 hbx; have y0 := x0; rw [← hwe] at y0; have HWE : Hid (w3.alloc (.cells #[.int .u64 cl.time, .int .i64 cl.src, .int .u64 cl.seq, .int .i64 cl.dst, .int .i64 cl.kind, .int .i64 cl.data] 30) = we) := hwe; clear hwe))) | (go_at_call 73; rw [HWE.out]; (with_reducible refine (HA _).mono ?_); rintro e w4 ⟨rfl, rfl⟩))
      go_ret
      exact ⟨rfl, _, me, rfl⟩
    · by_cases c3 : D < 0
      · have hv : sendF cl M D T = 205 := by unfold sendF; rw [if_neg (by omega), if_pos (.inl c3)]
        rw [hv]
        clear hv hne
        go_enter Try.func67, Try.ntmps67
        go_wp2_with (first | (go_at_call 54; (first | ((with_reducible refine HP1.mono ?_); rintro e w1 ⟨rfl, o1, m1⟩; have HP2 := popW w0 w1 base mb nw C (popM M) m1 hh1 hh2; rw [hT] at HP2; clear HP1) | ((with_reducible refine HP2.mono ?_); rintro e w2 ⟨rfl, o2, m2⟩; have HP3 := popW w0 w2 base mb nw C (popM (popM M)) m2 hh3 hh4; rw [hX] at HP3; clear HP2) | ((with_reducible refine HP3.mono ?_); rintro e w3 ⟨rfl, o3, m3⟩; clear HP3; have s1 := m3.fix (k := 1) (by decide) hC.time; have s2 := m3.fix (k := 2) (by decide) hC.src; have s3 := m3.fix (k := 3) (by decide) hC.seq; have s4 := m3.fix (k := 4) (by decide) hC.dst; have s5 := m3.fix (k := 5) (by decide) hC.kind; have s6 := m3.fix (k := 6) (by decide) hC.data; obtain ⟨we, hwe⟩ : ∃ we, w3.alloc (.cells #[.int .u64 cl.time, .int .i64 cl.src, .int .u64 cl.seq, .int .i64 cl.dst, .int .i64 cl.kind, .int .i64 cl.data] 30) = we := ⟨_, rfl⟩; obtain ⟨hbe, hbx, hse⟩ := own6 w3 cl we hwe; have me := m3.later hbe; have t11 := me.fix (k := 11) (by decide) hC.parts; have t10 := me.fix (k := 10) (by decide) hC.look; have t155 : we.cell? ⟨mb, 155, none⟩ = some (.slice vp M.on vc) := (me.box.cell 155 (by omega)).trans (congrArg some hov); have hsz3 : w3.heap.size = w.heap.size := (by rw [o3.size, o2.size, o1.size]); obtain ⟨x0, x1, x2, x3, x4, x5⟩ := cells6 hbx; have y0 := x0; rw [← hwe] at y0; have HWE : Hid (w3.alloc (.cells #[.int .u64 cl.time, .int .i64 cl.src, .int .u64 cl.seq, .int .i64 cl.dst, .int .i64 cl.kind, .int .i64 cl.data] 30) = we) := hwe; clear hwe))) | (go_at_call 73; rw [HWE.out]; (with_reducible refine (HA _).mono ?_); rintro e w4 ⟨rfl, rfl⟩))
        go_ret
        exact ⟨rfl, _, me, rfl⟩
      · by_cases c4 : u64of D < cl.look
        · have hv : sendF cl M D T = 205 := by unfold sendF; rw [if_neg (by omega), if_pos (.inr c4)]
          rw [hv]
          clear hv hne
          go_enter Try.func67, Try.ntmps67
          go_wp2_with (first | (go_at_call 54; (first | ((with_reducible refine HP1.mono ?_); rintro e w1 ⟨rfl, o1, m1⟩; have HP2 := popW w0 w1 base mb nw C (popM M) m1 hh1 hh2; rw [hT] at HP2; clear HP1) | ((with_reducible refine HP2.mono ?_); rintro e w2 ⟨rfl, o2, m2⟩; have HP3 := popW w0 w2 base mb nw C (popM (popM M)) m2 hh3 hh4; rw [hX] at HP3; clear HP2) | ((with_reducible refine HP3.mono ?_); rintro e w3 ⟨rfl, o3, m3⟩; clear HP3; have s1 := m3.fix (k := 1) (by decide) hC.time; have s2 := m3.fix (k := 2) (by decide) hC.src; have s3 := m3.fix (k := 3) (by decide) hC.seq; have s4 := m3.fix (k := 4) (by decide) hC.dst; have s5 := m3.fix (k := 5) (by decide) hC.kind; have s6 := m3.fix (k := 6) (by decide) hC.data; obtain ⟨we, hwe⟩ : ∃ we, w3.alloc (.cells #[.int .u64 cl.time, .int .i64 cl.src, .int .u64 cl.seq, .int .i64 cl.dst, .int .i64 cl.kind, .int .i64 cl.data] 30) = we := ⟨_, rfl⟩; obtain ⟨hbe, hbx, hse⟩ := own6 w3 cl we hwe; have me := m3.later hbe; have t11 := me.fix (k := 11) (by decide) hC.parts; have t10 := me.fix (k := 10) (by decide) hC.look; have t155 : we.cell? ⟨mb, 155, none⟩ = some (.slice vp M.on vc) := (me.box.cell 155 (by omega)).trans (congrArg some hov); have hsz3 : w3.heap.size = w.heap.size := (by rw [o3.size, o2.size, o1.size]); obtain ⟨x0, x1, x2, x3, x4, x5⟩ := cells6 hbx; have y0 := x0; rw [← hwe] at y0; have HWE : Hid (w3.alloc (.cells #[.int .u64 cl.time, .int .i64 cl.src, .int .u64 cl.seq, .int .i64 cl.dst, .int .i64 cl.kind, .int .i64 cl.data] 30) = we) := hwe; clear hwe))) | (go_at_call 73; rw [HWE.out]; (with_reducible refine (HA _).mono ?_); rintro e w4 ⟨rfl, rfl⟩))
          go_ret
          exact ⟨rfl, _, me, rfl⟩
        · by_cases c5 : M.on = 16
          · have c5' : ((M.on : Int) == 16) = true := by simp; omega
            have hv : sendF cl M D T = 207 := by unfold sendF; rw [if_neg (by omega), if_neg (by omega), if_pos c5]
            rw [hv]
            clear hv hne
            go_enter Try.func67, Try.ntmps67
            go_wp2_with (first | (go_at_call 54; (first | ((with_reducible refine HP1.mono ?_); rintro e w1 ⟨rfl, o1, m1⟩; have HP2 := popW w0 w1 base mb nw C (popM M) m1 hh1 hh2; rw [hT] at HP2; clear HP1) | ((with_reducible refine HP2.mono ?_); rintro e w2 ⟨rfl, o2, m2⟩; have HP3 := popW w0 w2 base mb nw C (popM (popM M)) m2 hh3 hh4; rw [hX] at HP3; clear HP2) | ((with_reducible refine HP3.mono ?_); rintro e w3 ⟨rfl, o3, m3⟩; clear HP3; have s1 := m3.fix (k := 1) (by decide) hC.time; have s2 := m3.fix (k := 2) (by decide) hC.src; have s3 := m3.fix (k := 3) (by decide) hC.seq; have s4 := m3.fix (k := 4) (by decide) hC.dst; have s5 := m3.fix (k := 5) (by decide) hC.kind; have s6 := m3.fix (k := 6) (by decide) hC.data; obtain ⟨we, hwe⟩ : ∃ we, w3.alloc (.cells #[.int .u64 cl.time, .int .i64 cl.src, .int .u64 cl.seq, .int .i64 cl.dst, .int .i64 cl.kind, .int .i64 cl.data] 30) = we := ⟨_, rfl⟩; obtain ⟨hbe, hbx, hse⟩ := own6 w3 cl we hwe; have me := m3.later hbe; have t11 := me.fix (k := 11) (by decide) hC.parts; have t10 := me.fix (k := 10) (by decide) hC.look; have t155 : we.cell? ⟨mb, 155, none⟩ = some (.slice vp M.on vc) := (me.box.cell 155 (by omega)).trans (congrArg some hov); have hsz3 : w3.heap.size = w.heap.size := (by rw [o3.size, o2.size, o1.size]); obtain ⟨x0, x1, x2, x3, x4, x5⟩ := cells6 hbx; have y0 := x0; rw [← hwe] at y0; have HWE : Hid (w3.alloc (.cells #[.int .u64 cl.time, .int .i64 cl.src, .int .u64 cl.seq, .int .i64 cl.dst, .int .i64 cl.kind, .int .i64 cl.data] 30) = we) := hwe; clear hwe))) | (go_at_call 73; rw [HWE.out]; (with_reducible refine (HA _).mono ?_); rintro e w4 ⟨rfl, rfl⟩))
            go_ret
            exact ⟨rfl, _, me, rfl⟩
          · have c5' : ((M.on : Int) == 16) = false := by simp; omega
            by_cases c6 : addE cl.time (u64of D) = 0
            · exact absurd (by unfold sendF; rw [if_neg (by omega), if_neg (by omega), if_neg c5, if_neg (by simpa using c6)]) hne
            · have c6' : (addE cl.time (u64of D) == 0) = false := by simpa using c6
              have hv : sendF cl M D T = 206 := by unfold sendF; rw [if_neg (by omega), if_neg (by omega), if_neg c5, if_pos c6]
              rw [hv]
              clear hv hne
              go_enter Try.func67, Try.ntmps67
              go_wp2_with (first | (go_at_call 54; (first | ((with_reducible refine HP1.mono ?_); rintro e w1 ⟨rfl, o1, m1⟩; have HP2 := popW w0 w1 base mb nw C (popM M) m1 hh1 hh2; rw [hT] at HP2; clear HP1) | ((with_reducible refine HP2.mono ?_); rintro e w2 ⟨rfl, o2, m2⟩; have HP3 := popW w0 w2 base mb nw C (popM (popM M)) m2 hh3 hh4; rw [hX] at HP3; clear HP2) | ((with_reducible refine HP3.mono ?_); rintro e w3 ⟨rfl, o3, m3⟩; clear HP3; have s1 := m3.fix (k := 1) (by decide) hC.time; have s2 := m3.fix (k := 2) (by decide) hC.src; have s3 := m3.fix (k := 3) (by decide) hC.seq; have s4 := m3.fix (k := 4) (by decide) hC.dst; have s5 := m3.fix (k := 5) (by decide) hC.kind; have s6 := m3.fix (k := 6) (by decide) hC.data; obtain ⟨we, hwe⟩ : ∃ we, w3.alloc (.cells #[.int .u64 cl.time, .int .i64 cl.src, .int .u64 cl.seq, .int .i64 cl.dst, .int .i64 cl.kind, .int .i64 cl.data] 30) = we := ⟨_, rfl⟩; obtain ⟨hbe, hbx, hse⟩ := own6 w3 cl we hwe; have me := m3.later hbe; have t11 := me.fix (k := 11) (by decide) hC.parts; have t10 := me.fix (k := 10) (by decide) hC.look; have t155 : we.cell? ⟨mb, 155, none⟩ = some (.slice vp M.on vc) := (me.box.cell 155 (by omega)).trans (congrArg some hov); have hsz3 : w3.heap.size = w.heap.size := (by rw [o3.size, o2.size, o1.size]); obtain ⟨x0, x1, x2, x3, x4, x5⟩ := cells6 hbx; have y0 := x0; rw [← hwe] at y0; have HWE : Hid (w3.alloc (.cells #[.int .u64 cl.time, .int .i64 cl.src, .int .u64 cl.seq, .int .i64 cl.dst, .int .i64 cl.kind, .int .i64 cl.data] 30) = we) := hwe; clear hwe))) | (go_at_call 73; rw [HWE.out]; (with_reducible refine (HA _).mono ?_); rintro e w4 ⟨rfl, rfl⟩))
              go_ret
              exact ⟨rfl, _, me, rfl⟩
end Go.Proofs.Ytieanhmkcbcdkaa
