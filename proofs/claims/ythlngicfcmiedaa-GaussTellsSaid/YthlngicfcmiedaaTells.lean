/-
  GaussTells's walk: it returns true, and turns nothing that lay.
-/
import Derived.Test.YthlngicfcmiedaaWakes
import Derived.Test.YthlngicfcmiedaaOpen
namespace Go.Proofs.Ythlngicfcmiedaa
open Go.RowKit

theorem from_any (x y : Nat) : ∃ p, From x y p := by
  cases h : ptB x y
  · exact ⟨(0, 0), .inr ⟨h, rfl⟩⟩
  · obtain ⟨p, hp⟩ := Pt.of h
    exact ⟨p, .inl hp⟩
/-- The next one of whatever number. -/
def nxt (x y : Nat) (p : Int × Int) (c : Int) : Int × Int := if ptB x y = true then nextP p c else (0, 0)
def byts (x y : Nat) (p : Int × Int) : List Int := if ptB x y = true then bytesP p else [0, 0, 0, 0]
theorem byts_four (x y : Nat) (p : Int × Int) : ∃ a b c d, byts x y p = [a, b, c, d] := by
  unfold byts
  split
  · exact ⟨_, _, _, _, rfl⟩
  · exact ⟨_, _, _, _, rfl⟩

theorem rright_any (x y : Nat) (w : World) :
    Calls Try.prog 12 #[.complex .f64 x y] w fun e w' => e = .returned (.bool (ptB x y)) ∧ w = w' := by
  cases h : ptB x y
  · exact rright_no w h
  · obtain ⟨p, hp⟩ := Pt.of h
    exact rright_yes w hp
theorem next_from {x y : Nat} {p : Int × Int} {c : Int} (w : World) (hp : From x y p) (hb : 0 ≤ c ∧ c ≤ 255) :
    Calls Try.prog 13 #[.complex .f64 x y, .int .u8 c] w fun e w' => ChainOut (nxt x y p c) e ∧ Below w.heap.size w w' := by
  rcases hp with hp | ⟨h, rfl⟩
  · have e : nxt x y p c = nextP p c := by unfold nxt; rw [if_pos hp.yes]
    rw [e]
    exact next_out w hp hb
  · have e : nxt x y (0, 0) c = (0, 0) := by unfold nxt; rw [if_neg (by rw [h]; decide)]
    rw [e]
    exact (next_no w h).mono fun _ _ ⟨a, b⟩ => ⟨⟨_, _, a, Pt.zero⟩, b⟩
theorem rnext_from {x y : Nat} {p : Int × Int} {c : Int} (w : World) (hp : From x y p) (hb : 0 ≤ c ∧ c ≤ 255) :
    Calls Try.prog 14 #[.complex .f64 x y, .int .u8 c] w fun e w' => ChainOut (nxt x y p c) e ∧ w = w' := by
  rcases hp with hp | ⟨h, rfl⟩
  · have e : nxt x y p c = nextP p c := by unfold nxt; rw [if_pos hp.yes]
    rw [e]
    exact rnext_out w hp hb
  · have e : nxt x y (0, 0) c = (0, 0) := by unfold nxt; rw [if_neg (by rw [h]; decide)]
    rw [e]
    exact (rnext_no w h).mono fun _ _ ⟨a, b⟩ => ⟨⟨_, _, a, Pt.zero⟩, b⟩
theorem bytes_from {x y : Nat} {p : Int × Int} {a b c d : Int} (w : World) (hp : From x y p) (h : byts x y p = [a, b, c, d]) :
    Calls Try.prog 17 #[.complex .f64 x y] w fun e w' => e = .returned (.agg #[.int .u8 a, .int .u8 b, .int .u8 c, .int .u8 d]) ∧ Below w.heap.size w w' := by
  rcases hp with hp | ⟨h0, rfl⟩
  · unfold byts at h
    rw [if_pos hp.yes] at h
    exact bytes_out w hp h
  · unfold byts at h
    rw [if_neg (by rw [h0]; decide)] at h
    have h1 := bytes_no w h0
    rw [h] at h1
    exact h1
theorem rbytes_from {x y : Nat} {p : Int × Int} {a b c d : Int} (w : World) (hp : From x y p) (h : byts x y p = [a, b, c, d]) :
    Calls Try.prog 18 #[.complex .f64 x y] w fun e w' => e = .returned (.agg #[.int .u8 a, .int .u8 b, .int .u8 c, .int .u8 d]) ∧ Below w.heap.size w w' := by
  rcases hp with hp | ⟨h0, rfl⟩
  · unfold byts at h
    rw [if_pos hp.yes] at h
    exact rbytes_out w hp h
  · unfold byts at h
    rw [if_neg (by rw [h0]; decide)] at h
    have h1 := rbytes_no w h0
    rw [h] at h1
    exact h1
/-- What Of answers of whatever four bytes. -/
def OfOut (p : Int × Int) (er : Int) (e : Ending) : Prop := ∃ x y, e = .returned (.tuple #[.complex .f64 x y, .int .i64 er]) ∧ Pt x y p
theorem of_both (a b c d : Int) (ha : 0 ≤ a ∧ a ≤ 255) (hb : 0 ≤ b ∧ b ≤ 255) (hc : 0 ≤ c ∧ c ≤ 255) (hd : 0 ≤ d ∧ d ≤ 255) : ∃ p er, ∀ w : World,
    (Calls Try.prog 9 #[.agg #[.int .u8 a, .int .u8 b, .int .u8 c, .int .u8 d]] w fun e w' => OfOut p er e ∧ Below w.heap.size w w') ∧
    (Calls Try.prog 10 #[.agg #[.int .u8 a, .int .u8 b, .int .u8 c, .int .u8 d]] w fun e w' => OfOut p er e ∧ Below w.heap.size w w') := by
  by_cases h : a * 256 + b ≤ 10006 ∧ c * 256 + d ≤ 10006
  · exact ⟨_, _, fun w => ⟨of_out_yes a b c d w ha hb hc hd h, rof_out_yes a b c d w ha hb hc hd h⟩⟩
  · exact ⟨(0, 0), 11, fun w => ⟨(of_out_no a b c d w ha hb hc hd (by omega)).mono fun _ _ ⟨x, y⟩ => ⟨⟨0, 0, x, Pt.zero⟩, y⟩, (rof_out_no a b c d w ha hb hc hd (by omega)).mono fun _ _ ⟨x, y⟩ => ⟨⟨0, 0, x, Pt.zero⟩, y⟩⟩⟩

theorem Raw.at_ {w : World} {B : Nat} {A : Option Addr} {n : Nat} {ps : List Part} (h : Raw w B A n ps) {k : Nat} (hk : k < n) :
    ∃ b off qA qn qc ql, A = some ⟨b, off, none⟩ ∧ b < B ∧ ps[k]? = some ⟨qA, qn, qc, ql⟩ ∧ w.cell? ⟨b, off + k, none⟩ = some (.slice qA qn qc) := by
  obtain ⟨b, off, rfl, hb, hc⟩ := h.row (by omega)
  have hk' : k < ps.length := by rw [h.len]; exact hk
  have he : ps[k]? = some ps[k] := List.getElem?_eq_getElem hk'
  have h1 := hc k hk
  rw [he] at h1
  exact ⟨b, off, _, _, _, _, rfl, hb, he, h1⟩
theorem take_all {ps : List Part} {k m : Nat} {q : Part} (h : ps[k]? = some q) (hq : q.n ≤ m) (ha : ∀ p ∈ ps.take k, p.n ≤ m) : ∀ p ∈ ps.take (k + 1), p.n ≤ m := by
  intro p hp
  rw [List.take_add_one, h] at hp
  rcases List.mem_append.1 hp with hp | hp
  · exact ha p hp
  · obtain rfl : p = q := by simpa using hp
    exact hq

set_option maxRecDepth 100000 in
set_option maxHeartbeats 2000000 in
theorem tells_any (x y : Nat) (k a b c d : Int) (A : Option Addr) (n cp : Nat) (ps : List Part) (w : World) (hk : 0 ≤ k ∧ k ≤ 255) (ha : 0 ≤ a ∧ a ≤ 255) (hb : 0 ≤ b ∧ b ≤ 255) (hc : 0 ≤ c ∧ c ≤ 255) (hd : 0 ≤ d ∧ d ≤ 255) (hr : Raw w w.heap.size A n ps) :
    Calls Try.prog 3 #[.float .f64 x, .float .f64 y, .int .u8 k, .agg #[.int .u8 a, .int .u8 b, .int .u8 c, .int .u8 d], .slice A n cp] w fun e w' => e = .returned (.bool true) ∧ Below w.heap.size w w' := by
  by_cases h20 : 20 < n
  · have hd0 : decide ((20 : Int) < (n : Int)) = true := by simp; omega
    go_enter Try.func3, Try.ntmps3
    go_wp2_with fail
    refine (wakes_any _).mono ?_
    rintro e w' ⟨rfl, hB⟩
    go_wp2_with fail
    go_ret
    exact ⟨rfl, ((Below.refl _ w).alloc (Nat.le_refl _) _).trans (hB.mono (by simp))⟩
  · have hd0 : decide ((20 : Int) < (n : Int)) = false := by simp; omega
    obtain ⟨p, hp⟩ := from_any x y
    have Hp := Lib.hid hp
    obtain ⟨op, oe, hof⟩ := of_both a b c d ha hb hc hd
    have Hof := Lib.hid hof
    have Hlen := Lib.hid hr.len
    clear hof hp
    go_enter Try.func3, Try.ntmps3
    go_wp2_with fail
    obtain ⟨g, hg⟩ : ∃ g, g = w.heap.size := ⟨_, rfl⟩
    obtain ⟨w0, hw0⟩ : ∃ w0, w0 = w.alloc (.cells #[.int .u8 a, .int .u8 b, .int .u8 c, .int .u8 d] 23) := ⟨_, rfl⟩
    obtain ⟨j0, j1, j2, j3⟩ := boxed4 hg hw0
    have hB : Below w.heap.size w w0 := by rw [hw0]; exact (Below.refl _ _).alloc (Nat.le_refl _) _
    have hlt : g < w0.heap.size := by rw [hw0, hg]; simp
    rw [← hw0, ← hg]
    clear hw0 hg
    have hsz := hB.size
    go_loop [11] (fun i => ∃ q : Nat, q ≤ n ∧ i = .int .i64 q ∧ ∀ p ∈ ps.take q, p.n ≤ 200) (fun i => n - (intOf i).toNat)
    case atStart => exact ⟨0, Nat.zero_le _, rfl, fun p hp => by cases hp⟩
    case round =>
      obtain ⟨q, hq, rfl, hall⟩ := hrel
      have Hall := Lib.hid hall
      clear hall
      by_cases hlt2 : q < n
      · obtain ⟨bl, off, qA, qn, qc, ql, rfl, hbl, hps, hcell⟩ := hr.at_ hlt2
        have hcell' := (hB.cell (p := ⟨bl, off + q, none⟩) hbl).trans hcell
        have Hps := Lib.hid hps
        clear hcell hps
        by_cases hbig : 200 < qn
        · have hd1 : decide ((200 : Int) < (qn : Int)) = true := by simp; omega
          go_wp2_with fail
          refine (wakes_any _).mono ?_
          rintro e w' ⟨rfl, hbw⟩
          go_wp2_with fail
          go_ret
          exact ⟨rfl, hB.trans (hbw.mono hsz)⟩
        · have hd1 : decide ((200 : Int) < (qn : Int)) = false := by simp; omega
          go_wp2_with fail
          go_round
          case rel => exact ⟨q + 1, by omega, by go_num, take_all Hps.out (by simp only; omega) Hall.out⟩
          case measure => simp [intOf]; omega
      · obtain rfl : q = n := by omega
        have hall : ∀ p ∈ ps, p.n ≤ 140737488355328 := fun p hp => by
          have h1 := Hall.out
          rw [List.take_of_length_le (by rw [Hlen.out]; exact Nat.le_refl _)] at h1
          exact Nat.le_trans (h1 p hp) (by omega)
        have hrs := hr.rds hall
        clear hall
        go_wp2_with fail
        refine (Hof.out w0).1.mono ?_
        rintro e w1 ⟨⟨x1, y1, rfl, p1⟩, hb1⟩
        have k0 := (hb1.cell (p := ⟨g, 0, none⟩) hlt).trans j0
        have k1 := (hb1.cell (p := ⟨g, 1, none⟩) hlt).trans j1
        have k2 := (hb1.cell (p := ⟨g, 2, none⟩) hlt).trans j2
        have k3 := (hb1.cell (p := ⟨g, 3, none⟩) hlt).trans j3
        replace hB : Below w.heap.size w w1 := hB.trans (hb1.mono hsz)
        clear hb1 hsz j0 j1 j2 j3 hlt
        have hsz := hB.size
        go_wp2_with fail
        refine (Hof.out w1).2.mono ?_
        rintro e w2 ⟨⟨x2, y2, rfl, p2⟩, hb2⟩
        replace hB : Below w.heap.size w w2 := hB.trans (hb2.mono hsz)
        clear hb2 hsz k0 k1 k2 k3
        have hsz := hB.size
        go_wp2_with fail
        refine (right_any _ _ _).mono ?_
        rintro e w' ⟨rfl, rfl⟩
        go_wp2_with fail
        refine (rright_any _ _ _).mono ?_
        rintro e w' ⟨rfl, rfl⟩
        go_wp2_with fail
        refine (next_from _ Hp.out hk).mono ?_
        rintro e w3 ⟨⟨x3, y3, rfl, p3⟩, hb⟩
        replace hB : Below w.heap.size w w3 := hB.trans (hb.mono hsz)
        clear hb hsz
        have hsz := hB.size
        go_wp2_with fail
        refine (rnext_from _ Hp.out hk).mono ?_
        rintro e w' ⟨⟨x4, y4, rfl, p4⟩, rfl⟩
        obtain ⟨o1, o2⟩ := p3.order p4 rfl
        go_wp2_with fail
        refine (chain_any _ _ Hp.out (hrs.on hB hsz) (by omega)).mono ?_
        rintro e w5 ⟨⟨x5, y5, rfl, p5⟩, hb⟩
        replace hB : Below w.heap.size w w5 := hB.trans (hb.mono hsz)
        clear hb hsz
        have hsz := hB.size
        go_wp2_with fail
        refine (rchain_any _ _ Hp.out (hrs.on hB hsz) (by omega)).mono ?_
        rintro e w' ⟨⟨x6, y6, rfl, p6⟩, rfl⟩
        obtain ⟨o3, o4⟩ := p5.order p6 rfl
        obtain ⟨s0, s1, s2, s3, hs⟩ := byts_four x y p
        have Hs := Lib.hid hs
        clear hs
        go_wp2_with fail
        refine (bytes_from _ Hp.out Hs.out).mono ?_
        rintro e w7 ⟨rfl, hb⟩
        replace hB : Below w.heap.size w w7 := hB.trans (hb.mono hsz)
        clear hb hsz
        have hsz := hB.size
        go_wp2_with fail
        refine (rbytes_from _ Hp.out Hs.out).mono ?_
        rintro e w8 ⟨rfl, hb⟩
        replace hB : Below w.heap.size w w8 := hB.trans (hb.mono hsz)
        clear hb hsz
        have hsz := hB.size
        have q4 := fun w => eql_same4 s0 s1 s2 s3 w
        obtain ⟨o5, o6⟩ := p1.order p2 rfl
        go_wp2_with fail
        refine (wakes_any _).mono ?_
        rintro e w' ⟨rfl, hbw⟩
        go_wp2_with fail
        go_ret
        exact ⟨rfl, hB.trans (hbw.mono hsz)⟩

end Go.Proofs.Ythlngicfcmiedaa
