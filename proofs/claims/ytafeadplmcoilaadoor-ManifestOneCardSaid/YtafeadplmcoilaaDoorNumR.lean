/-
  The document's numbers as bytes: moultref01's Is, Long, TakeLong: their contracts (stage 1's texts, as one).
-/
import Derived.Test.YtafeadplmcoilaaDoorNumM
namespace Go.Proofs.YtafeadplmcoilaaDoor.Nu
open Go.RowKit

theorem allNum_one {n : Int} (h0 : 0 ≤ n) (h1 : n ≤ 1073741824) : allNum [n] = true := by simp [allNum, isNum, h0, h1]
end Go.Proofs.YtafeadplmcoilaaDoor.Nu

namespace Go.Proofs.YtafeadplmcoilaaDoor.Nu
open Go.RowKit

theorem Rd.cut_at {w : World} {B n m b off : Nat} {k : IntKind} {l : List Int} (h : Rd w B k (some ⟨b, off, none⟩) n l) (hm : m ≤ n) : Rd w B k (some ⟨b, off + m, none⟩) (n - m) (l.drop m) := by
  refine ⟨by rw [List.length_drop, h.1], fun hn => ?_⟩
  obtain ⟨b', off', e, hb, hcell⟩ := h.2 (by omega)
  injection e with e
  injection e with e1 e2
  subst e1 e2
  refine ⟨b, off + m, rfl, hb, fun i hi => ?_⟩
  rw [Nat.add_assoc, hcell (m + i) (by omega), List.getElem?_drop]

theorem own_empty_at (w : World) (base : Nat) (e : TypeId) (h : base ≤ w.heap.size) {g : Nat} (hg : g = w.heap.size) : (w.alloc (.cells #[] e)).ownsRow base e 1 (.slice (some ⟨g, 0, none⟩) 0 0) 0 [] := by
  subst hg
  exact own_empty w base e h
theorem Longer.one_at {base : Nat} {e : TypeId} {W w1 : World} {v1 : Value} {n1 g : Nat} {R : List Int} {k : IntKind}
    (h1 : Longer base e (W.alloc (.cells #[] e)) (.slice (some ⟨g, 0, none⟩) 0 0) n1 ([] ++ R.map (Value.int k)) v1 w1) (hg : g = W.heap.size) :
    (∃ A c q, v1 = .slice A q c ∧ Row k R q A c w1) ∧ Below W.heap.size W w1 := by
  subst hg
  exact h1.one

set_option maxRecDepth 100000 in
set_option maxHeartbeats 400000 in
theorem ris_any (A : Option Addr) (n c : Nat) (l : List Int) (w : World) (hr : Rd w w.heap.size .i64 A n l) (hn : n ≤ 140737488355328) :
    Calls Tryd.prog 54 #[.slice A n c] w fun e w' => e = .returned (.bool (allNum l)) ∧ w = w' := by
  have hl : l.length = n := hr.1
  go_enter Tryd.func54, Tryd.ntmps54
  go_wp2
  go_loop [3] (fun i => ∃ k : Nat, k ≤ n ∧ i = .int .i64 k ∧ allNum (l.take k) = true) (fun i => n - (intOf i).toNat)
  case atStart => exact ⟨0, Nat.zero_le _, rfl, rfl⟩
  case round =>
    obtain ⟨k, hk, rfl, hall⟩ := hrel
    have Hall := Lib.hid hall
    clear hall
    have Hl := Lib.hid hl
    clear hl
    by_cases hlt : k < n
    · obtain ⟨b, off, rfl, hB, hc⟩ := hr.at_ (by omega)
      have hck := hc k hlt
      clear hc
      by_cases h0 : l[k]?.getD 0 < 0
      · have hd : decide (l[k]?.getD 0 < 0) = true := by simpa using h0
        go_wp2
        go_ret
        exact ⟨ret_bool (by rw [allNum_no (k := k) (by rw [Hl.out]; exact hlt) (by simp [isNum]; omega)]), rfl⟩
      · have hd : decide (l[k]?.getD 0 < 0) = false := by simpa using h0
        by_cases h1 : 1073741824 < l[k]?.getD 0
        · go_wp2
          go_ret
          exact ⟨ret_bool (by rw [allNum_no (k := k) (by rw [Hl.out]; exact hlt) (by simp [isNum]; omega)]), rfl⟩
        · go_wp2
          go_round
          case rel => exact ⟨k + 1, by omega, by go_num, by rw [take_snoc (by rw [Hl.out]; exact hlt), allNum_snoc, Hall.out]; simp [isNum]; omega⟩
          case measure => simp [intOf]; omega
    · have : k = n := by omega
      have hf : allNum l = true := by rw [← Hall.out, List.take_of_length_le (by rw [Hl.out]; omega)]
      have Hf := Lib.hid hf
      clear hf this
      go_wp2
      go_ret
      exact ⟨ret_bool (by rw [Hf.out]), rfl⟩
theorem ris_out (A : Option Addr) (n c : Nat) (l : List Int) (w : World) {x : Bool} (hr : Rd w w.heap.size .i64 A n l) (hn : n ≤ 140737488355328) (hx : allNum l = x) :
    Calls Tryd.prog 54 #[.slice A n c] w fun e w' => e = .returned (.bool x) ∧ w = w' := by
  have h := ris_any A n c l w hr hn
  rwa [hx] at h
theorem allNum_one_no {n : Int} (h : 1073741824 < n) : allNum [n] = false := by simp [allNum, isNum]; omega

theorem Row.gives {k : IntKind} {R : List Int} {q : Nat} {A : Option Addr} {c : Nat} {w : World} (h : Row k R q A c w) : Gives k R (.slice A q c) w := by
  have h1 := h.2.1
  subst h1
  exact ⟨A, c, rfl, h.1, h.2⟩

end Go.Proofs.YtafeadplmcoilaaDoor.Nu

namespace Go.Proofs.YtafeadplmcoilaaDoor.Nu
open Go.RowKit

theorem own_next {base : Nat} {e : TypeId} {k : IntKind} {W w' : World} {v v' : Value} {n m : Nat} {xs R : List Int} (h : Longer base e W v (n + m) (xs.map (Value.int k) ++ R.map (Value.int k)) v' w') (hn : xs.length = n) (hm : R.length = m) :
    w'.ownsRow base e 1 v' (xs ++ R).length ((xs ++ R).map (Value.int k)) := by
  rw [List.length_append, List.map_append, hn, hm]
  exact h.1
theorem own_below {base size n : Nat} {e : TypeId} {v : Value} {xs : List Value} {w w' : World} (h : w.ownsRow base e size v n xs) (hb : Below w.heap.size w w') : w'.ownsRow base e size v n xs :=
  h.kept (row := none) ⟨hb.os, hb.tape, hb.output, hb.size, fun k hk _ => hb.block k hk⟩ (by
    rcases h.2 with ⟨rfl, _⟩ | ⟨g, cap, cur, rfl, _⟩
    · exact .inl rfl
    · exact .inr (by simp [Value.ownBlock]))

/-- Long's answer, as a whole: a row of the call's own. -/
def LongOwn (w : World) (l : List Int) (e : Ending) (w' : World) : Prop :=
  ∃ v, e = .returned (.tuple #[v, .int .i64 (if allNum l then 0 else 2)]) ∧ w'.ownsRow w.heap.size 5 1 v (if allNum l then longsOf l else []).length ((if allNum l then longsOf l else []).map (Value.int .u8))
theorem LongOwn.no {w : World} {l : List Int} {w' : World} (h : allNum l = false) : LongOwn w l (.returned (.tuple #[.slice none 0 0, .int .i64 2])) w' :=
  ⟨_, by rw [h]; rfl, by rw [h]; exact World.ownsRow_nil _ _ _ _⟩
theorem LongOwn.yes {w : World} {l : List Int} {v : Value} {w' : World} (h : allNum l = true) (hg : w'.ownsRow w.heap.size 5 1 v (longsOf l).length ((longsOf l).map (Value.int .u8))) : LongOwn w l (.returned (.tuple #[v, .int .i64 0])) w' :=
  ⟨_, by rw [h]; rfl, by rw [h]; exact hg⟩

end Go.Proofs.YtafeadplmcoilaaDoor.Nu

