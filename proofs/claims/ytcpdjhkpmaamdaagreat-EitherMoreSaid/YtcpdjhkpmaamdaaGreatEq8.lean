/-
  moultref06.Same: its contract.
-/
import Derived.Test.YtcpdjhkpmaamdaaGreatDev8
import Derived.ChangeKeysEq
import Derived.RegionTactic
import Derived.BigRegion
import Derived.BigQuiet
namespace Go.Proofs.YtcpdjhkpmaamdaaGreat
open Go.RowKit
set_option linter.unusedVariables false

theorem fields_enTw : (Tryz.prog.fieldsOf 41).toList = [⟨"Term", 3, 0, false, "", "", 0⟩, ⟨"Kind", 3, 1, false, "", "", 8⟩, ⟨"Value", 3, 2, false, "", "", 16⟩] := by kernel_rfl
/-- '==' of entries. -/
theorem equal_enTw (s t : EnP) (w : World) : (Op.equalIn 10000 41 (.agg #[.int .i64 s.tm, .int .i64 s.kd, .int .i64 s.vl]) (.agg #[.int .i64 t.tm, .int .i64 t.kd, .int .i64 t.vl])).run Tryz.prog w = .ok (decide (s = t)) w := by
  obtain ⟨a, b, c⟩ := s
  obtain ⟨a', b', c'⟩ := t
  rw [run_equalIn_agg w 9999 _ _ _ (by kernel_rfl) (by kernel_rfl), fields_enTw]
  by_cases h1 : a = a' <;> by_cases h2 : b = b' <;> by_cases h3 : c = c' <;> simp [Op.eqFields, part, go_sem, h1, h2, h3]
def eqETw (l m : List EnP) : Bool := decide (l = m)
theorem eqE_trueTw {l m : List EnP} (h : l = m) : eqETw l m = true := decide_eq_true h
theorem eqE_falseTw {l m : List EnP} (h : l ≠ m) : eqETw l m = false := decide_eq_false h
theorem eqE_iffTw {l m : List EnP} : eqETw l m = true ↔ l = m := by simp [eqETw]

set_option maxRecDepth 100000 in
set_option maxHeartbeats 1000000 in
theorem ents_anyTw (A A' : Option Addr) (n n' c c' : Nat) (l m : List EnP) (w : World) (hr : Es w w.heap.size A n l) (hr' : Es w w.heap.size A' n' m) (hn : n ≤ 1000000000) (hn' : n' ≤ 1000000000) :
    Calls Tryz.prog 23 #[.slice A n c, .slice A' n' c'] w fun e w' => e = .returned (.bool (eqETw l m)) ∧ Below w.heap.size w w' := by
  have Hl := Lib.hid hr.len
  have Hm := Lib.hid hr'.len
  by_cases hnn : n = n'
  · subst hnn
    go_enter Tryz.func23, Tryz.ntmps23
    go_wp2
    go_loopw [5] (fun i wr => ∃ k : Nat, k ≤ n ∧ i = .int .i64 k ∧ l.take k = m.take k ∧ Below w.heap.size w wr) (fun i _ => n - (intOf i).toNat)
    case atStart => exact ⟨0, Nat.zero_le _, rfl, rfl, Below.refl _ _⟩
    case round =>
      obtain ⟨k, hk, rfl, heq, hB⟩ := hrel
      have Heq := Lib.hid heq
      clear heq
      by_cases hlt : k < n
      · obtain ⟨b, off, e, rfl, hb, he, c0, c1, c2⟩ := Es.at_ (hr.on hB hB.size) hlt
        obtain ⟨b', off', e', rfl, hb', he', c0', c1', c2'⟩ := Es.at_ (hr'.on hB hB.size) hlt
        have HB := Lib.hid hB
        by_cases hee : e = e'
        · have Hn := Lib.hid (show l.take (k + 1) = m.take (k + 1) by rw [take_succ he, take_succ he', Heq.out, hee])
          have hq : ∀ w, (Op.equalIn 10000 41 (.agg #[.int .i64 e.tm, .int .i64 e.kd, .int .i64 e.vl]) (.agg #[.int .i64 e'.tm, .int .i64 e'.kd, .int .i64 e'.vl])).run Tryz.prog w = .ok true w := fun w => by rw [equal_enTw, decide_eq_true hee]
          clear hee he he' hB
          go_wp2
          go_region
          all_goals
            go_wp2
            go_roundw
            case rel => exact ⟨k + 1, by omega, by go_num, Hn.out, HB.out.drew⟩
            case measure => simp [intOf]; omega
        · have Hf := Lib.hid (eqE_falseTw (l := l) (m := m) (fun h => hee (by rw [h, he'] at he; exact (Option.some.inj he).symm)))
          have hq : ∀ w, (Op.equalIn 10000 41 (.agg #[.int .i64 e.tm, .int .i64 e.kd, .int .i64 e.vl]) (.agg #[.int .i64 e'.tm, .int .i64 e'.kd, .int .i64 e'.vl])).run Tryz.prog w = .ok false w := fun w => by rw [equal_enTw, decide_eq_false hee]
          clear hee he he' hB
          go_wp2
          go_region
          all_goals
            go_wp2
            go_ret
            exact ⟨ret_bool (by rw [Hf.out]), HB.out.drew⟩
      · have hkn : k = n := by omega
        have hf : eqETw l m = true := eqE_trueTw (by
          have h1 := Heq.out
          rwa [List.take_of_length_le (by rw [Hl.out]; omega), List.take_of_length_le (by rw [Hm.out]; omega)] at h1)
        have Hf := Lib.hid hf
        clear hf hkn
        go_wp2
        go_ret
        exact ⟨ret_bool (by rw [Hf.out]), hB⟩
  · have Hf := Lib.hid (eqE_falseTw (l := l) (m := m) (fun h => hnn (by rw [← Hl.out, ← Hm.out, h])))
    go_enter Tryz.func23, Tryz.ntmps23
    go_wp2
    go_ret
    exact ⟨ret_bool (by rw [Hf.out]), Below.refl _ _⟩

end Go.Proofs.YtcpdjhkpmaamdaaGreat
