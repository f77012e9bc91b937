/-
  Slices of slices of bytes in memory; moultref02.Chain: its contract.
-/
import Derived.Test.YthlngicfcmiedaaRefOf
namespace Go.Proofs.Ythlngicfcmiedaa
open Go.RowKit

/-- A slice of bytes: its address, length, capacity, bytes. -/
structure Part where
  A : Option Addr
  n : Nat
  c : Nat
  l : List Int
def Part.v (p : Part) : Value := .slice p.A p.n p.c
def flat (ps : List Part) : List Int := (ps.map Part.l).flatten
theorem flat_nil : flat [] = [] := rfl
theorem flat_cons (p : Part) (ps : List Part) : flat (p :: ps) = p.l ++ flat ps := rfl
theorem flat_take {ps : List Part} {k : Nat} {q : Part} (h : ps[k]? = some q) : flat (ps.take (k + 1)) = flat (ps.take k) ++ q.l := by
  unfold flat
  rw [List.take_add_one, h]
  simp

/-- The slice of address A and length n holds the slices ps; all lies below B. -/
structure Rds (w : World) (B : Nat) (A : Option Addr) (n : Nat) (ps : List Part) : Prop where
  len : ps.length = n
  row : 0 < n → ∃ b off, A = some ⟨b, off, none⟩ ∧ b < B ∧ ∀ i, i < n → w.cell? ⟨b, off + i, none⟩ = ps[i]?.map Part.v
  parts : ∀ p ∈ ps, Rd w B .u8 p.A p.n p.l ∧ Byt p.l ∧ p.n ≤ 140737488355328
theorem Rds.at_ {w : World} {B : Nat} {A : Option Addr} {n : Nat} {ps : List Part} (h : Rds w B A n ps) {k : Nat} (hk : k < n) :
    ∃ b off q, A = some ⟨b, off, none⟩ ∧ b < B ∧ ps[k]? = some q ∧ w.cell? ⟨b, off + k, none⟩ = some (.slice q.A q.n q.c) ∧ Rd w B .u8 q.A q.n q.l ∧ Byt q.l ∧ q.n ≤ 140737488355328 := by
  obtain ⟨b, off, rfl, hb, hc⟩ := h.row (by omega)
  have hk' : k < ps.length := by rw [h.len]; exact hk
  have he : ps[k]? = some ps[k] := List.getElem?_eq_getElem hk'
  have h1 := hc k hk
  rw [he] at h1
  exact ⟨b, off, ps[k], rfl, hb, he, h1, h.parts _ (List.getElem_mem hk')⟩
theorem Rds.on {w w' : World} {B B' : Nat} {A : Option Addr} {n : Nat} {ps : List Part} (h : Rds w B A n ps) (hb : Below B w w') (hB : B ≤ B') : Rds w' B' A n ps where
  len := h.len
  row := fun hn => by
    obtain ⟨b, off, e, hlt, hc⟩ := h.row hn
    exact ⟨b, off, e, by omega, fun i hi => (hb.cell (p := ⟨b, off + i, none⟩) hlt).trans (hc i hi)⟩
  parts := fun p hp => ⟨(h.parts p hp).1.on hb hB, (h.parts p hp).2⟩

/-- A chain's answer: a point. -/
def ChainOut (p : Int × Int) (e : Ending) : Prop := ∃ x y, e = .returned (.complex .f64 x y) ∧ Pt x y p
/-- Where a chain begins. -/
def From (x y : Nat) (p : Int × Int) : Prop := Pt x y p ∨ (ptB x y = false ∧ p = (0, 0))

set_option maxRecDepth 100000 in
set_option maxHeartbeats 1000000 in
theorem rchain_any {x y : Nat} {p : Int × Int} {A : Option Addr} {n : Nat} (c : Nat) {ps : List Part} (w : World) (hp : From x y p) (hr : Rds w w.heap.size A n ps) (hn : n ≤ 140737488355328) :
    Calls Try.prog 16 #[.complex .f64 x y, .slice A n c] w fun e w' => ChainOut (chainP p (flat ps)) e ∧ w = w' := by
  have Hl := Lib.hid hr.len
  rcases hp with hp | ⟨hp, hp0⟩
  · have Hz : Hid (Pt x y (chainP p [])) := Lib.hid hp
    go_enter Try.func16, Try.ntmps16
    go_wp2_with fail
    refine (rright_yes _ hp).mono ?_
    rintro e w' ⟨rfl, rfl⟩
    go_wp2_with fail
    go_loop [0, 5] (fun z i => ∃ (k a b : Nat), k ≤ n ∧ i = .int .i64 k ∧ z = .complex .f64 a b ∧ Pt a b (chainP p (flat (ps.take k)))) (fun _ i => n - (intOf i).toNat)
    case atStart => exact ⟨0, _, _, Nat.zero_le _, rfl, rfl, Hz.out⟩
    case round =>
      obtain ⟨k, a, b, hk, rfl, rfl, hz⟩ := hrel
      by_cases hlt : k < n
      · obtain ⟨bl, off, q, rfl, hB, hq, hc, hrq, hbq, hnq⟩ := hr.at_ hlt
        have Hq := Lib.hid (flat_take hq)
        have Hql := Lib.hid hrq.1
        clear hq
        go_wp2_with fail
        go_loop [0, 6] (fun z i => ∃ (j a b : Nat), j ≤ q.n ∧ i = .int .i64 j ∧ z = .complex .f64 a b ∧ Pt a b (chainP p (flat (ps.take k) ++ q.l.take j))) (fun _ i => q.n - (intOf i).toNat)
        case atStart => exact ⟨0, _, _, Nat.zero_le _, rfl, rfl, by rw [List.take_zero, List.append_nil]; exact hz⟩
        case round =>
          obtain ⟨j, a', b', hj, rfl, rfl, hz'⟩ := hrel
          by_cases hlt2 : j < q.n
          · obtain ⟨bl', off', hA', hB', hc'⟩ := hrq.at_ (by omega)
            have hcj := hc' j hlt2
            have hby := hbq.at_ j
            clear hc'
            have Hs := Lib.hid (take_snoc (l := q.l) (k := j) (by rw [Hql.out]; exact hlt2))
            go_wp2_with fail
            refine (rnext_yes _ hz' hby).mono ?_
            rintro e w' ⟨rfl, rfl⟩
            go_wp2_with fail
            go_round
            case rel => exact ⟨j + 1, _, _, by omega, by go_num, rfl, by rw [Hs.out, ← List.append_assoc, chainP_snoc]; exact Pt.fl (nextP_in _ _)⟩
            case measure => simp [intOf]; omega
          · obtain rfl : j = q.n := by omega
            go_wp2_with fail
            go_round
            case rel => exact ⟨k + 1, _, _, by omega, by go_num, rfl, by rw [Hq.out]; rwa [List.take_of_length_le (show q.l.length ≤ q.n by rw [Hql.out]; exact Nat.le_refl _)] at hz'⟩
            case measure => simp [intOf]; omega
      · obtain rfl : k = n := by omega
        go_wp2_with fail
        go_ret
        exact ⟨⟨a, b, rfl, by rwa [List.take_of_length_le (by rw [Hl.out]; exact Nat.le_refl _)] at hz⟩, rfl⟩
  · have Hp := Lib.hid hp
    have Hz : Hid (Pt 0 0 (chainP p [])) := Lib.hid (by rw [hp0]; exact Pt.zero)
    clear hp hp0
    go_enter Try.func16, Try.ntmps16
    go_wp2_with fail
    refine (rright_no _ Hp.out).mono ?_
    rintro e w' ⟨rfl, rfl⟩
    go_wp2_with fail
    go_loop [0, 5] (fun z i => ∃ (k a b : Nat), k ≤ n ∧ i = .int .i64 k ∧ z = .complex .f64 a b ∧ Pt a b (chainP p (flat (ps.take k)))) (fun _ i => n - (intOf i).toNat)
    case atStart => exact ⟨0, _, _, Nat.zero_le _, rfl, rfl, Hz.out⟩
    case round =>
      obtain ⟨k, a, b, hk, rfl, rfl, hz⟩ := hrel
      by_cases hlt : k < n
      · obtain ⟨bl, off, q, rfl, hB, hq, hc, hrq, hbq, hnq⟩ := hr.at_ hlt
        have Hq := Lib.hid (flat_take hq)
        have Hql := Lib.hid hrq.1
        clear hq
        go_wp2_with fail
        go_loop [0, 6] (fun z i => ∃ (j a b : Nat), j ≤ q.n ∧ i = .int .i64 j ∧ z = .complex .f64 a b ∧ Pt a b (chainP p (flat (ps.take k) ++ q.l.take j))) (fun _ i => q.n - (intOf i).toNat)
        case atStart => exact ⟨0, _, _, Nat.zero_le _, rfl, rfl, by rw [List.take_zero, List.append_nil]; exact hz⟩
        case round =>
          obtain ⟨j, a', b', hj, rfl, rfl, hz'⟩ := hrel
          by_cases hlt2 : j < q.n
          · obtain ⟨bl', off', hA', hB', hc'⟩ := hrq.at_ (by omega)
            have hcj := hc' j hlt2
            have hby := hbq.at_ j
            clear hc'
            have Hs := Lib.hid (take_snoc (l := q.l) (k := j) (by rw [Hql.out]; exact hlt2))
            go_wp2_with fail
            refine (rnext_yes _ hz' hby).mono ?_
            rintro e w' ⟨rfl, rfl⟩
            go_wp2_with fail
            go_round
            case rel => exact ⟨j + 1, _, _, by omega, by go_num, rfl, by rw [Hs.out, ← List.append_assoc, chainP_snoc]; exact Pt.fl (nextP_in _ _)⟩
            case measure => simp [intOf]; omega
          · obtain rfl : j = q.n := by omega
            go_wp2_with fail
            go_round
            case rel => exact ⟨k + 1, _, _, by omega, by go_num, rfl, by rw [Hq.out]; rwa [List.take_of_length_le (show q.l.length ≤ q.n by rw [Hql.out]; exact Nat.le_refl _)] at hz'⟩
            case measure => simp [intOf]; omega
      · obtain rfl : k = n := by omega
        go_wp2_with fail
        go_ret
        exact ⟨⟨a, b, rfl, by rwa [List.take_of_length_le (by rw [Hl.out]; exact Nat.le_refl _)] at hz⟩, rfl⟩

end Go.Proofs.Ythlngicfcmiedaa
