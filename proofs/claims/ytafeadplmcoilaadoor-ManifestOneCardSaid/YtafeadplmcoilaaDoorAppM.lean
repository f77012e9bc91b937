/-
  Appends onto rows of the call's own, places, bytes that are others (of stage 9's texts).
-/
import Derived.Test.YtafeadplmcoilaaDoorNumU
import Derived.Test.YtafeadplmcoilaaDoorCrcH
import Derived.Test.YtafeadplmcoilaaDoorRow
namespace Go.Proofs.YtafeadplmcoilaaDoor
open Go.RowKit
set_option linter.unusedVariables false
set_option linter.unusedSimpArgs false

theorem own_keep {base size n : Nat} {e : TypeId} {v : Value} {xs : List Value} {w w' : World} (h : w.ownsRow base e size v n xs) (hb : Below w.heap.size w w') : w'.ownsRow base e size v n xs :=
  h.kept (row := none) ⟨hb.os, hb.tape, hb.output, hb.size, fun j hj _ => hb.block j hj⟩ (by
    rcases h.2 with ⟨rfl, _⟩ | ⟨g, cap, cur, rfl, _⟩
    · exact .inl rfl
    · exact .inr (by simp [Value.ownBlock]))

section
variable (A : Option Addr) (n c : Nat) (l : List Int) (w : World)
theorem rshort_yes {R : List Int} {q : Nat} (hr : Rd w w.heap.size .i64 A n l) (hn : n ≤ 1099511627776) (ha : Nu.allNum l = true) (hR : Nu.shortsOf l = R) (hq : R.length = q) :
    Calls Tryd.prog 32 #[.slice A n c] w fun e w' => ∃ A' c', e = .returned (.tuple #[.slice A' q c', .int .i64 0]) ∧ Nu.Row .u8 R q A' c' w' ∧ Below w.heap.size w w' := by
  refine (Nu.rshorts_any A n c l w hr hn).mono ?_
  rintro e w' ⟨⟨v, rfl, hg⟩, hb⟩
  rw [ha] at hg
  obtain ⟨A', c', rfl, h⟩ := hg.row hR hq
  exact ⟨A', c', by rw [ha]; rfl, h, hb⟩
theorem rshort_no (hr : Rd w w.heap.size .i64 A n l) (hn : n ≤ 1099511627776) (ha : Nu.allNum l = false) :
    Calls Tryd.prog 32 #[.slice A n c] w fun e w' => ∃ A' c', e = .returned (.tuple #[.slice A' 0 c', .int .i64 2]) ∧ Nu.Row .u8 [] 0 A' c' w' ∧ Below w.heap.size w w' := by
  refine (Nu.rshorts_any A n c l w hr hn).mono ?_
  rintro e w' ⟨⟨v, rfl, hg⟩, hb⟩
  rw [ha] at hg
  obtain ⟨A', c', rfl, h⟩ := hg.row rfl (q := 0) rfl
  exact ⟨A', c', by rw [ha]; rfl, h, hb⟩
end


theorem Source.rd {w : World} {B n : Nat} {kd : IntKind} {A : Option Addr} {l : List Int} (h : Rd w B kd A n l) : Source w 1 A n (l.map (Value.int kd)) := by
  refine ⟨by rw [List.length_map, h.1, Nat.mul_one], fun u hu => by obtain ⟨x, _, rfl⟩ := List.mem_map.1 hu; rfl, ?_⟩
  by_cases hn : n = 0
  · subst hn
    rcases A with _ | a
    · exact .inl ⟨rfl, rfl⟩
    · refine .inr ⟨a, rfl, fun j u hj => ?_⟩
      have := (List.getElem?_eq_some_iff.1 hj).1
      rw [List.length_map, h.1] at this
      omega
  · obtain ⟨b, off, e, _, _⟩ := h.2 (by omega)
    subst e
    exact .inr ⟨_, rfl, h.cells⟩
section
variable {W w w' : World} {B base : Nat} {e : TypeId} {size n m c : Nat} {A : Option Addr} {xs ys : List Value} {v' : Value}
theorem Longer.made (h : Longer W.heap.size e size (W.alloc (.cells #[] e)) (.slice (some ⟨W.heap.size, 0, none⟩) 0 0) (0 + n) ([] ++ xs) v' w') :
    ∃ A c, v' = .slice A n c ∧ n ≤ c ∧ w'.ownsRow W.heap.size e size (.slice A n c) n xs ∧ Below W.heap.size W w' ∧ (∀ g, (Value.slice A n c).ownBlock = some g → W.heap.size ≤ g) := by
  have hB := h.below (B := W.heap.size) ((Below.refl _ W).alloc (Nat.le_refl _) _) (by simp) (fun g hg => by simp [Value.ownBlock] at hg; omega)
  have hN := h.new (B := W.heap.size) (fun g hg => by simp [Value.ownBlock] at hg; omega) (by simp)
  have ho := h.1
  rw [Nat.zero_add, List.nil_append] at ho
  obtain ⟨A, c, rfl, hc⟩ := own_slice ho
  exact ⟨A, c, rfl, hc, ho, hB, hN⟩
theorem Longer.madeG {g : Nat} (h : Longer W.heap.size e size (W.alloc (.cells #[] e)) (.slice (some ⟨g, 0, none⟩) 0 0) (0 + n) ([] ++ xs) v' w') (hg : g = W.heap.size) :
    ∃ A c, v' = .slice A n c ∧ n ≤ c ∧ w'.ownsRow W.heap.size e size (.slice A n c) n xs ∧ Below W.heap.size W w' ∧ (∀ g, (Value.slice A n c).ownBlock = some g → W.heap.size ≤ g) := by
  subst hg
  exact h.made
theorem Longer.more (hB : Below B W w) (hb : B ≤ w.heap.size) (hv : ∀ g, (Value.slice A n c).ownBlock = some g → B ≤ g) (h : Longer base e size w (.slice A n c) (n + m) (xs ++ ys) v' w') :
    ∃ A' c', v' = .slice A' (n + m) c' ∧ n + m ≤ c' ∧ w'.ownsRow base e size (.slice A' (n + m) c') (n + m) (xs ++ ys) ∧ Below B W w' ∧ (∀ g, (Value.slice A' (n + m) c').ownBlock = some g → B ≤ g) := by
  have hB' := h.below hB hb hv
  have hN := h.new hv hb
  have ho := h.1
  obtain ⟨A', c', rfl, hc⟩ := own_slice ho
  exact ⟨A', c', rfl, hc, ho, hB', hN⟩
end
theorem own_bytes {w : World} {base n m c : Nat} {e : TypeId} {A : Option Addr} {l k : List Int} (h : w.ownsRow base e 1 (.slice A n c) n (l.map (Value.int .u8) ++ k.map (Value.int .u8))) : Rd w w.heap.size .u8 A n (l ++ k) := by
  rw [← List.map_append] at h
  exact Rd.of_own h
theorem exec_append {P : Program} {w w' : World} {a : Act} {o : Oper} {s x : Operand} {t : TypeId} {v v' : Value} {A : Option Addr} {m c : Nat} (ho : o.op = .call { callee := .builtin .append, args := #[s, x], argTypes := #[t, t] }) (hs : a.eval s = v) (hx : a.eval x = .slice A m c)
    (hrun : (Builtin.append_ #[t, t] o.type #[v, .slice A m c]).run P w = .ok v' w') : (execOp a.eval o).run P w = .ok (.value v') w' := by
  unfold execOp
  simp only [ho, resolve, invoke, builtin, Sem.run_bind, Sem.run_pure, Result.andThen_ok, List.map_toArray, List.map_cons, List.map_nil, hs, hx, hrun]

theorem place_two {n : Nat} (hn : n ≤ 100000) (h : 0 < n) (a : Int) : ∃ (q : Int) (k : Nat), Int.tmod a (n : Int) = q ∧ wrap64 (q + (n : Int)) = q + (n : Int) ∧ Int.tmod (q + (n : Int)) (n : Int) = (k : Int) ∧ (q + (n : Int)) % (n : Int) = (k : Int) ∧ k < n := by
  have h0 : (0 : Int) < (n : Int) := by omega
  have h1 := Int.lt_tmod_of_pos a h0
  have h1' := Int.tmod_lt_of_pos a h0
  have h2 := Int.tmod_nonneg (n : Int) (show 0 ≤ Int.tmod a (n : Int) + (n : Int) by omega)
  have h3 := Int.tmod_lt_of_pos (Int.tmod a (n : Int) + (n : Int)) h0
  have h4 : Int.tmod (Int.tmod a (n : Int) + (n : Int)) (n : Int) = (Int.tmod a (n : Int) + (n : Int)) % (n : Int) := Int.tmod_eq_emod_of_nonneg (by omega)
  exact ⟨_, (Int.tmod (Int.tmod a (n : Int) + (n : Int)) (n : Int)).toNat, rfl, by unfold wrap64; omega, by omega, by omega, by omega⟩

theorem own_some {w : World} {base size n : Nat} {e : TypeId} {v : Value} {xs : List Value} (h : w.ownsRow base e size v n xs) (hn : 0 < n) : ∃ g cap, v = .slice (some ⟨g, 0, none⟩) n cap := by
  rcases h.2 with ⟨_, h0⟩ | ⟨g, cap, cur, rfl, _⟩
  · omega
  · exact ⟨g, cap, rfl⟩
theorem byt_getD {F : List Int} (h : Byt F) (p : Nat) : 0 ≤ F[p]?.getD 0 ∧ F[p]?.getD 0 ≤ 255 := by
  cases hp : F[p]? with
  | none => simp
  | some x => exact h x (List.mem_of_getElem? hp)
theorem byt_set {F : List Int} (h : Byt F) (p : Nat) {x : Int} (hx : 0 ≤ x ∧ x ≤ 255) : Byt (F.set p x) := fun y hy => by
  rcases List.mem_or_eq_of_mem_set hy with h1 | rfl
  · exact h y h1
  · exact hx
theorem byt_one {x : Int} (h : 0 ≤ x ∧ x ≤ 255) : Byt [x] := fun y hy => by
  obtain rfl : y = x := List.mem_singleton.1 hy
  exact h
theorem xor_byte {x y : Int} (hx : 0 ≤ x ∧ x ≤ 255) (hy : 0 ≤ y ∧ y ≤ 255) : 0 ≤ bits .xor .u8 x y ∧ bits .xor .u8 x y ≤ 255 := by
  rw [Cr.xor_int hx hy]
  exact Cr.xor_int_range x y hx hy
theorem xor_zero {x : Int} (h : 0 ≤ x ∧ x ≤ 255) : bits .xor .u8 x 0 = x := by
  have key : ∀ k : Fin 256, bits .xor .u8 (k.val : Int) 0 = (k.val : Int) := by decide +kernel
  have := key ⟨x.toNat, by omega⟩
  rwa [show ((⟨x.toNat, by omega⟩ : Fin 256).val : Int) = x by show ((x.toNat : Nat) : Int) = x; omega] at this
theorem set_self {l : List Int} {p : Nat} {x : Int} (hp : p < l.length) (h : l[p]?.getD 0 = x) : l.set p x = l := by
  apply List.ext_getElem?
  intro i
  rw [List.getElem?_set]
  by_cases h1 : p = i
  · subst h1
    rw [if_pos rfl, if_pos hp, ← h, List.getElem?_eq_getElem hp]
    rfl
  · rw [if_neg h1]


end Go.Proofs.YtafeadplmcoilaaDoor
