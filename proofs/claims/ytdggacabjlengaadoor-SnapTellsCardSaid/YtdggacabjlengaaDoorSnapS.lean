/-
  moultlaw09.same, the document's Short: their contracts; rows of the call's own.
-/
import Derived.Test.YtdggacabjlengaaDoorSnapP
import Derived.Test.YtdggacabjlengaaDoorSame8
import Derived.Test.YtdggacabjlengaaDoorRow
import Derived.Test.YtdggacabjlengaaDoorFineM
import Derived.Test.YtdggacabjlengaaDoorCrcM
import Derived.Test.YtdggacabjlengaaDoorDraw
import Derived.Deep.DeepCutAuto
import Derived.RegionTactic
import Derived.BigRegion
import Derived.BigQuiet
import Derived.Outline
namespace Go.Proofs.YtdggacabjlengaaDoor
open Go.RowKit
set_option linter.unusedVariables false

/-- Bytes and an error told: the bytes are a row of the call's own. -/
def Tel (w : World) (R : List Int × Int) (e : Ending) (w' : World) : Prop :=
  (∃ A c, e = .returned (.tuple #[.slice A R.1.length c, .int .i64 R.2]) ∧ R.1.length ≤ c ∧ w'.ownsRow w.heap.size 5 1 (.slice A R.1.length c) R.1.length (R.1.map (Value.int .u8))) ∧ Below w.heap.size w w'
theorem Tel.none_ {w w' : World} {R : List Int × Int} (h : R = ([], 2)) (hB : Below w.heap.size w w') : Tel w R (.returned (.tuple #[.slice none 0 0, .int .i64 2])) w' := by
  subst h
  exact ⟨⟨none, 0, rfl, Nat.le_refl _, World.ownsRow_nil _ _ _ _⟩, hB⟩
theorem Tel.some_ {w w' : World} {R : List Int × Int} {L : List Int} {v : Value} {n : Nat} (h : R = (L, 0)) (hn : L.length = n) (hr : w'.ownsRow w.heap.size 5 1 v n (L.map (Value.int .u8))) (hB : Below w.heap.size w w') : Tel w R (.returned (.tuple #[v, .int .i64 0])) w' := by
  subst h hn
  obtain ⟨A, c, rfl, hc, _⟩ := own_rd hr
  exact ⟨⟨A, c, rfl, hc, hr⟩, hB⟩

/-- The row that a literal makes. -/
theorem own_lit (w : World) {base g : Nat} {e : TypeId} (l : List Value) (hg : g = w.heap.size) (hb : base ≤ w.heap.size) (hm : l.length ≤ maxLen) :
    (w.alloc (.cells l.toArray e)).ownsRow base e 1 (.slice (some ⟨g, 0, none⟩) l.length l.length) l.length l := by
  subst hg
  exact ⟨by simp, .inr ⟨w.heap.size, l.length, l.toArray, rfl, hb, World.alloc_heap_new w _, Nat.le_refl _, hm, by simp, by simp⟩⟩
theorem own_weak {w : World} {base b' : Nat} {e : TypeId} {size : Nat} {v : Value} {n : Nat} {xs : List Value} (h : w.ownsRow base e size v n xs) (hb : b' ≤ base) : w.ownsRow b' e size v n xs :=
  ⟨h.1, h.2.imp id fun ⟨g, cap, cur, h1, h2, h3⟩ => ⟨g, cap, cur, h1, Nat.le_trans hb h2, h3⟩⟩

theorem own_keep {base size n : Nat} {e : TypeId} {v : Value} {xs : List Value} {w w' : World} (h : w.ownsRow base e size v n xs) (hb : Below w.heap.size w w') : w'.ownsRow base e size v n xs :=
  h.kept (row := none) ⟨hb.os, hb.tape, hb.output, hb.size, fun j hj _ => hb.block j hj⟩ (by
    rcases h.2 with ⟨rfl, _⟩ | ⟨g, cap, cur, rfl, _⟩
    · exact .inl rfl
    · exact .inr (by simp [Value.ownBlock]))

set_option maxRecDepth 100000 in
set_option maxHeartbeats 400000 in
/-- same: it tells whether two slices hold the same bytes; nothing turns. -/
theorem same_any (A A' : Option Addr) (n n' c c' : Nat) (l m : List Int) (w : World) (hr : Rd w w.heap.size .u8 A n l) (hr' : Rd w w.heap.size .u8 A' n' m) (hl : Byt l) (hm : Byt m) :
    Calls Tryd.prog 13 #[.slice A n c, .slice A' n' c'] w fun e w' => e = .returned (.bool (eqB l m)) ∧ w = w' := by
  have q1 := run_txt (P := Tryd.prog) (c := c) 24 9 5 Tryd.underlying24 Tryd.underlying5 Tryd.underlying9 hr
  have q2 := run_txt (P := Tryd.prog) (c := c') 24 9 5 Tryd.underlying24 Tryd.underlying5 Tryd.underlying9 hr'
  have H := Lib.hid (txt_beq hl hm)
  clear hr hr' hl hm
  go_enter Tryd.func13, Tryd.ntmps13
  go_wp2
  go_ret
  exact ⟨ret_bool H.out, rfl⟩

section
variable (A : Option Addr) (n c : Nat) (l : List Int) (w : World)
theorem rshort_yes {R : List Int} {q : Nat} (hr : Rd w w.heap.size .i64 A n l) (hn : n ≤ 1099511627776) (ha : Nu.allNum l = true) (hR : Nu.shortsOf l = R) (hq : R.length = q) :
    Calls Tryd.prog 36 #[.slice A n c] w fun e w' => ∃ A' c', e = .returned (.tuple #[.slice A' q c', .int .i64 0]) ∧ Nu.Row .u8 R q A' c' w' ∧ Below w.heap.size w w' := by
  refine (Nu.rshorts_any A n c l w hr hn).mono ?_
  rintro e w' ⟨⟨v, rfl, hg⟩, hb⟩
  rw [ha] at hg
  obtain ⟨A', c', rfl, h⟩ := hg.row hR hq
  exact ⟨A', c', by rw [ha]; rfl, h, hb⟩
theorem rshort_no (hr : Rd w w.heap.size .i64 A n l) (hn : n ≤ 1099511627776) (ha : Nu.allNum l = false) :
    Calls Tryd.prog 36 #[.slice A n c] w fun e w' => ∃ A' c', e = .returned (.tuple #[.slice A' 0 c', .int .i64 2]) ∧ Nu.Row .u8 [] 0 A' c' w' ∧ Below w.heap.size w w' := by
  refine (Nu.rshorts_any A n c l w hr hn).mono ?_
  rintro e w' ⟨⟨v, rfl, hg⟩, hb⟩
  rw [ha] at hg
  obtain ⟨A', c', rfl, h⟩ := hg.row rfl (q := 0) rfl
  exact ⟨A', c', by rw [ha]; rfl, h, hb⟩
end


theorem Source.rd {w : World} {B n : Nat} {kd : IntKind} {A : Option Addr} {l : List Int} (h : Rd w B kd A n l) : Source w 1 A n (l.map (Value.int kd)) := by
  refine ⟨by rw [List.length_map, h.1, Nat.mul_one], fun u hu => by obtain ⟨x, _, rfl⟩ := List.mem_map.1 hu; rfl, ?_⟩
  by_cases hn : n = 0
  · subst hn
    rcases A with _ | a
    · exact .inl ⟨rfl, rfl⟩
    · refine .inr ⟨a, rfl, fun j u hj => ?_⟩
      have := (List.getElem?_eq_some_iff.1 hj).1
      rw [List.length_map, h.1] at this
      omega
  · obtain ⟨b, off, e, _, _⟩ := h.2 (by omega)
    subst e
    exact .inr ⟨_, rfl, h.cells⟩
section
variable {W w w' : World} {B base : Nat} {e : TypeId} {size n m c : Nat} {A : Option Addr} {xs ys : List Value} {v' : Value}
theorem Longer.made (h : Longer W.heap.size e size (W.alloc (.cells #[] e)) (.slice (some ⟨W.heap.size, 0, none⟩) 0 0) (0 + n) ([] ++ xs) v' w') :
    ∃ A c, v' = .slice A n c ∧ n ≤ c ∧ w'.ownsRow W.heap.size e size (.slice A n c) n xs ∧ Below W.heap.size W w' ∧ (∀ g, (Value.slice A n c).ownBlock = some g → W.heap.size ≤ g) := by
  have hB := h.below (B := W.heap.size) ((Below.refl _ W).alloc (Nat.le_refl _) _) (by simp) (fun g hg => by simp [Value.ownBlock] at hg; omega)
  have hN := h.new (B := W.heap.size) (fun g hg => by simp [Value.ownBlock] at hg; omega) (by simp)
  have ho := h.1
  rw [Nat.zero_add, List.nil_append] at ho
  obtain ⟨A, c, rfl, hc⟩ := own_slice ho
  exact ⟨A, c, rfl, hc, ho, hB, hN⟩
theorem Longer.madeG {g : Nat} (h : Longer W.heap.size e size (W.alloc (.cells #[] e)) (.slice (some ⟨g, 0, none⟩) 0 0) (0 + n) ([] ++ xs) v' w') (hg : g = W.heap.size) :
    ∃ A c, v' = .slice A n c ∧ n ≤ c ∧ w'.ownsRow W.heap.size e size (.slice A n c) n xs ∧ Below W.heap.size W w' ∧ (∀ g, (Value.slice A n c).ownBlock = some g → W.heap.size ≤ g) := by
  subst hg
  exact h.made
theorem Longer.more (hB : Below B W w) (hb : B ≤ w.heap.size) (hv : ∀ g, (Value.slice A n c).ownBlock = some g → B ≤ g) (h : Longer base e size w (.slice A n c) (n + m) (xs ++ ys) v' w') :
    ∃ A' c', v' = .slice A' (n + m) c' ∧ n + m ≤ c' ∧ w'.ownsRow base e size (.slice A' (n + m) c') (n + m) (xs ++ ys) ∧ Below B W w' ∧ (∀ g, (Value.slice A' (n + m) c').ownBlock = some g → B ≤ g) := by
  have hB' := h.below hB hb hv
  have hN := h.new hv hb
  have ho := h.1
  obtain ⟨A', c', rfl, hc⟩ := own_slice ho
  exact ⟨A', c', rfl, hc, ho, hB', hN⟩
end
theorem own_bytes {w : World} {base n m c : Nat} {e : TypeId} {A : Option Addr} {l k : List Int} (h : w.ownsRow base e 1 (.slice A n c) n (l.map (Value.int .u8) ++ k.map (Value.int .u8))) : Rd w w.heap.size .u8 A n (l ++ k) := by
  rw [← List.map_append] at h
  exact Rd.of_own h
theorem exec_append {P : Program} {w w' : World} {a : Act} {o : Oper} {s x : Operand} {t : TypeId} {v v' : Value} {A : Option Addr} {m c : Nat} (ho : o.op = .call { callee := .builtin .append, args := #[s, x], argTypes := #[t, t] }) (hs : a.eval s = v) (hx : a.eval x = .slice A m c)
    (hrun : (Builtin.append_ #[t, t] o.type #[v, .slice A m c]).run P w = .ok v' w') : (execOp a.eval o).run P w = .ok (.value v') w' := by
  unfold execOp
  simp only [ho, resolve, invoke, builtin, Sem.run_bind, Sem.run_pure, Result.andThen_ok, List.map_toArray, List.map_cons, List.map_nil, hs, hx, hrun]

/-- Bytes and an error told. -/
def Told (w : World) (R : List Int × Int) (e : Ending) (w' : World) : Prop :=
  (∃ A c, e = .returned (.tuple #[.slice A R.1.length c, .int .i64 R.2]) ∧ R.1.length ≤ c ∧ Rd w' w'.heap.size .u8 A R.1.length R.1) ∧ Below w.heap.size w w'
theorem Told.none_ {w w' : World} {R : List Int × Int} (h : R = ([], 2)) (hB : Below w.heap.size w w') : Told w R (.returned (.tuple #[.slice none 0 0, .int .i64 2])) w' := by
  subst h
  exact ⟨⟨none, 0, rfl, Nat.le_refl _, Rd.nil⟩, hB⟩
theorem Told.some_ {w w' : World} {R : List Int × Int} {L : List Int} {A : Option Addr} {n c : Nat} (h : R = (L, 0)) (hc : n ≤ c) (hr : Rd w' w'.heap.size .u8 A n L) (hB : Below w.heap.size w w') : Told w R (.returned (.tuple #[.slice A n c, .int .i64 0])) w' := by
  subst h
  obtain rfl := hr.1
  exact ⟨⟨A, c, rfl, hc, hr⟩, hB⟩
theorem Told.zero {w w' : World} {R : List Int × Int} {A : Option Addr} {c : Nat} (h : R = ([], 2)) (hB : Below w.heap.size w w') : Told w R (.returned (.tuple #[.slice A 0 c, .int .i64 2])) w' := by
  subst h
  exact ⟨⟨A, c, rfl, Nat.zero_le _, Rd.nil⟩, hB⟩
end Go.Proofs.YtdggacabjlengaaDoor
