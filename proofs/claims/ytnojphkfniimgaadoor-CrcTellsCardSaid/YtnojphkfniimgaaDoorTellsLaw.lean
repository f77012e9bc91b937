/-
  CrcTells's walk: it returns true, and turns nothing that lay.
-/
import Derived.Test.YtnojphkfniimgaaDoorHeld
import Derived.Test.YtnojphkfniimgaaDoorFourLaw
import Derived.Test.YtnojphkfniimgaaDoorOpenParts
namespace Go.Proofs.YtnojphkfniimgaaDoor
open Go.RowKit

theorem rstep_out (s h : Int) (w : World) (hs : 0 ≤ s ∧ s < 4294967296) (hh : 0 ≤ h ∧ h ≤ 255) :
    Calls Tryd.prog 17 #[.int .u32 s, .int .u8 h] w fun e w' => e = .returned (.int .u32 ((stepN s.toNat h.toNat : Nat) : Int)) ∧ w = w' :=
  (rstep_any s h w hs hh).mono fun e w' ⟨⟨x, he, hx⟩, hB⟩ => by
    have h1 := hx.1
    have h2 := hx.2
    rw [show ((stepN s.toNat h.toNat : Nat) : Int) = x by omega]
    exact ⟨he, hB⟩
theorem rsum_out {A : Option Addr} {n : Nat} (c : Nat) {ps : List Part} (w : World) (hr : Rds w w.heap.size A n ps) (hn : n ≤ 140737488355328) :
    Calls Tryd.prog 19 #[.slice A n c] w fun e w' => e = .returned (.int .u32 (sumI (flat ps))) ∧ Below w.heap.size w w' :=
  (rsum_any A n c ps w hr hn).mono fun _ _ ⟨⟨x, he, hx⟩, hB⟩ => by
    rw [← hx.sum]
    exact ⟨he, hB⟩
theorem rtake_any (A : Option Addr) (n c : Nat) (l : List Int) (w : World) (hr : Rd w w.heap.size .u8 A n l) (hb : Byt l) (hnc : n ≤ c) (hn : n ≤ 1048576) :
    Calls Tryd.prog 10 #[.slice A n c] w fun e w' => TakeOut l e w' ∧ Below w.heap.size w w' := by
  by_cases h4 : n < 4
  · refine (rtake_few A n c w h4).mono fun e w' ⟨he, hB⟩ => ⟨.inl ⟨?_, he⟩, hB⟩
    unfold okB
    rw [hr.1, decide_eq_false (by omega), Bool.false_and]
  · exact rtake_in A n c l w hr hb hnc ⟨by omega, hn⟩
/-- What both Takes answer, in one form. -/
theorem TakeOut.form {l : List Int} {n : Nat} {e : Ending} {w' : World} (h : TakeOut l e w') (hn : l.length = n) :
    ∃ A m c, e = .returned (.tuple #[.slice A m c, .bool (okB l)]) ∧ Rd w' w'.heap.size .u8 A m (if okB l then l.take (n - 4) else []) := by
  subst hn
  rcases h with ⟨h0, rfl⟩ | ⟨h1, A, c, rfl, hc, hr⟩
  · rw [h0]
    exact ⟨none, 0, 0, rfl, Rd.nil⟩
  · rw [h1]
    exact ⟨A, _, c, rfl, hr⟩
theorem taken_byt {l : List Int} (h : Byt l) (n : Nat) : Byt (if okB l then l.take (n - 4) else []) := by
  split
  · exact h.take _
  · exact Byt.nil

/-! ### In the region that draws: w is the world where it begins -/
theorem rnext_held {w W : World} {s : Int} {A : Option Addr} {n c : Nat} {l : List Int} (hS : Below w.heap.size w W) (hs : 0 ≤ s ∧ s < 4294967296) (hr : Rd w w.heap.size .u8 A n l) (hb : Byt l) (hn : n ≤ 140737488355328) :
    Calls Tryd.prog 12 #[.int .u32 s, .slice A n c] W fun e W' => e = .returned (.int .u32 (nextI s l)) ∧ Below w.heap.size w W' :=
  (rnext_any s A n c l W hs (hr.on hS hS.size) hb hn).mono fun _ _ ⟨⟨x, he, hx⟩, hB⟩ => by
    have h1 := hx.1
    have h2 := hx.2
    rw [show nextI s l = x by unfold nextI; omega]
    exact ⟨he, hS.trans (hB.mono hS.size)⟩
theorem put_held {w W : World} {A : Option Addr} {n c : Nat} {l : List Int} (hT : Tab w) (hS : Below w.heap.size w W) (hr : Rd w w.heap.size .u8 A n l) (hb : Byt l) (hnc : n ≤ c) (hn : n ≤ 1048576) :
    Calls Tryd.prog 14 #[.slice A n c] W fun e W' => (∃ A' c', e = .returned (.slice A' (n + 4) c') ∧ Rd W' W'.heap.size .u8 A' (n + 4) (l ++ fourI (sumI l))) ∧ Below w.heap.size w W' :=
  (put_out W (hT.on hS) (hr.on hS hS.size) hb hnc hn).mono fun _ _ ⟨⟨A', c', he, _, hr'⟩, hB⟩ => ⟨⟨A', c', he, hr'⟩, hS.trans (hB.mono hS.size)⟩
/-- .. and what the program's Put gave lies on. -/
theorem rput_held {w W : World} {A A' : Option Addr} {n m c : Nat} {l R : List Int} (hS : Below w.heap.size w W) (hr : Rd w w.heap.size .u8 A n l) (hb : Byt l) (hn : n ≤ 1048576) (h1 : Rd W W.heap.size .u8 A' m R) :
    Calls Tryd.prog 15 #[.slice A n c] W fun e W' => (∃ A'' c'', e = .returned (.slice A'' (n + 4) c'') ∧ Rd W' W'.heap.size .u8 A'' (n + 4) (l ++ fourI (sumI l)) ∧ Rd W' W'.heap.size .u8 A' m R) ∧ Below w.heap.size w W' :=
  (rput_any A n c l W (hr.on hS hS.size) hb hn).mono fun e w' ⟨⟨x, A'', c'', hx, he, _, hr'⟩, hB⟩ => by
    rw [hx.sum] at hr'
    exact ⟨⟨A'', c'', he, hr', h1.on hB hB.size⟩, hS.trans (hB.mono hS.size)⟩
theorem same_held {w W : World} {A A' : Option Addr} {n n' c c' : Nat} {l : List Int} (hS : Below w.heap.size w W) (hr : Rd w w.heap.size .u8 A n l) (hr' : Rd w w.heap.size .u8 A' n' l) (hl : Byt l) :
    Calls Tryd.prog 13 #[.slice A n c, .slice A' n' c'] W fun e W' => e = .returned (.bool true) ∧ W = W' :=
  same_true W (hr.on hS hS.size) (hr'.on hS hS.size) hl rfl

set_option maxRecDepth 100000 in
set_option maxHeartbeats 2000000 in
theorem tells_in (A : Option Addr) (n c : Nat) (ps : List Part) (s h : Int) (w : World) (hT : Tab w) (hr : Raw w w.heap.size A n ps) (hs : 0 ≤ s ∧ s < 4294967296) (hh : 0 ≤ h ∧ h ≤ 255) (hn : n ≤ 40) :
    Calls Tryd.prog 3 #[.slice A n c, .int .u32 s, .int .u8 h] w fun e w' => e = .returned (.bool true) ∧ Below w.heap.size w w' := by
  have hd : decide ((40 : Int) < (n : Int)) = false := by simp; omega
  have Hlen := Lib.hid hr.len
  go_enter Tryd.func3, Tryd.ntmps3
  go_wp2_with fail
  go_loopw [7] (fun i wr => ∃ q : Nat, q ≤ n ∧ i = .int .i64 q ∧ Below w.heap.size w wr ∧ ∀ p ∈ ps.take q, p.n ≤ 400) (fun i _ => n - (intOf i).toNat)
  case atStart => exact ⟨0, Nat.zero_le _, rfl, Below.refl _ _, fun p hp => by cases hp⟩
  case round =>
    obtain ⟨q, hq, rfl, hB, hall⟩ := hrel
    have Hall := Lib.hid hall
    have hsz := hB.size
    clear hall
    by_cases hlt : q < n
    · obtain ⟨bl, off, qA, qn, qc, ql, rfl, hbl, hps, hcell, hrq, hbq, hqc⟩ := hr.at_ hlt
      have hcw := (hB.cell (p := ⟨bl, off + q, none⟩) hbl).trans hcell
      have Hps := Lib.hid hps
      clear hps
      by_cases hbig : 400 < qn
      · have hd1 : decide ((400 : Int) < (qn : Int)) = true := by simp; omega
        go_wp2_with fail
        refine (wakes_any _ (hT.on hB)).mono ?_
        rintro e w' ⟨rfl, hbw⟩
        go_wp2_with fail
        go_ret
        exact ⟨rfl, hB.trans (hbw.mono hsz)⟩
      · have hd1 : decide ((400 : Int) < (qn : Int)) = false := by simp; omega
        go_wp2_with fail
        refine (take_c qA qn qc ql _ (hT.on hB) (hrq.on hB hsz) hbq hqc (by omega)).mono ?_
        rintro e w1 ⟨ho, hb1⟩
        obtain ⟨A1, m1, c1, rfl, r1⟩ := ho.form hrq.1
        replace hB : Below w.heap.size w w1 := hB.trans (hb1.mono hsz)
        have hcw1 := (hB.cell (p := ⟨bl, off + q, none⟩) hbl).trans hcell
        clear hb1 hsz ho hcw
        have hsz := hB.size
        go_wp2_with fail
        refine (rtake_any qA qn qc ql _ (hrq.on hB hsz) hbq hqc (by omega)).mono ?_
        rintro e w2 ⟨ho, hb2⟩
        obtain ⟨A2, m2, c2, rfl, r2⟩ := ho.form hrq.1
        replace r1 := r1.on hb2 hb2.size
        replace hB : Below w.heap.size w w2 := hB.trans (hb2.mono hsz)
        have hcw2 : ∀ W, Below w2.heap.size w2 W → W.cell? ⟨bl, off + q, none⟩ = some (.slice qA qn qc) := fun W hW => ((hB.trans (hW.mono hB.size)).cell (p := ⟨bl, off + q, none⟩) hbl).trans hcell
        have rq := hrq.on hB hB.size
        have hT2 := hT.on hB
        clear hb2 hsz ho hcw1
        have hsz := hB.size
        go_wp2_with fail
        obtain ⟨okv, hok⟩ : ∃ b, okB ql = b := ⟨_, rfl⟩
        obtain ⟨R, hR⟩ : ∃ R, R = (if okB ql then ql.take (qn - 4) else []) := ⟨_, rfl⟩
        have hbR : Byt R := by rw [hR]; exact taken_byt hbq _
        rw [← hR] at r1 r2
        rw [hok]
        clear hR hok
        have R0 := Lib.hid (⟨rq, hbq, hqc, by omega, by omega⟩ : Rd w2 w2.heap.size .u8 qA qn ql ∧ Byt ql ∧ qn ≤ qc ∧ qn ≤ 1048576 ∧ qn ≤ 140737488355328)
        have RR := Lib.hid (⟨r1, r2, hbR⟩ : Rd w2 w2.heap.size .u8 A1 m1 R ∧ Rd w2 w2.heap.size .u8 A2 m2 R ∧ Byt R)
        have HT := Lib.hid hT2
        have Hs := Lib.hid hs
        have HbP := Lib.hid (hbq.append (fourI_byt (sumI_range ql)))
        clear r1 r2 rq hbR hT2 hs hcell hrq hbq
        go_region_held3 (fun W => Below w2.heap.size w2 W)
          (first | assumption | exact Below.refl _ _ | exact (Below.refl _ _).drew)
          (first
            | (go_at_call 11; with_reducible refine (next_held (w := w2) HT.out (by assumption) Hs.out R0.out.1 R0.out.2.1 R0.out.2.2.2.2).mono ?_; rintro e w3 ⟨rfl, hS3⟩)
            | (go_at_call 12; with_reducible refine (rnext_held (w := w2) (by assumption) Hs.out R0.out.1 R0.out.2.1 R0.out.2.2.2.2).mono ?_; rintro e w4 ⟨rfl, hS4⟩)
            | (go_at_call 14; with_reducible refine (put_held (w := w2) HT.out (by assumption) R0.out.1 R0.out.2.1 R0.out.2.2.1 R0.out.2.2.2.1).mono ?_; rintro e w5 ⟨⟨A5, c5, rfl, r5⟩, hS5⟩)
            | (go_at_call 15; with_reducible refine (rput_held (w := w2) (by assumption) R0.out.1 R0.out.2.1 R0.out.2.2.2.1 r5).mono ?_; rintro e w6 ⟨⟨A6, c6, rfl, r6, r7⟩, hS6⟩)
            | (go_at_call 13; with_reducible refine (same_true _ r7 r6 HbP.out rfl).mono ?_; rintro e w7 ⟨rfl, rfl⟩)
            | (go_at_call 13; with_reducible refine (same_held (w := w2) (by assumption) RR.out.1 RR.out.2.1 RR.out.2.2).mono ?_; rintro e w7 ⟨rfl, rfl⟩))
        go_wp2_with fail
        go_roundw
        case rel => exact ⟨q + 1, by omega, by go_num, hB.trans (hS6.mono hsz), take_all Hps.out (by simp only; omega) Hall.out⟩
        case measure => simp [intOf]; omega
    · obtain rfl : q = n := by omega
      have hall : ∀ p ∈ ps, p.n ≤ 140737488355328 := fun p hp => by
        have h1 := Hall.out
        rw [List.take_of_length_le (by rw [Hlen.out]; exact Nat.le_refl _)] at h1
        exact Nat.le_trans (h1 p hp) (by omega)
      have hrs := hr.rds hall
      have q4 := fun w => eql_same4 (s % 256) (s / 256 % 256) (s / 65536 % 256) (s / 16777216) w
      clear hall
      go_wp2_with fail
      refine (step_out s h _ (hT.on hB) hs hh).mono ?_
      rintro e w1 ⟨rfl, hb⟩
      replace hB : Below w.heap.size w w1 := hB.trans (hb.mono hsz)
      clear hb hsz
      have hsz := hB.size
      go_wp2_with fail
      refine (rstep_out s h _ hs hh).mono ?_
      rintro e w' ⟨rfl, rfl⟩
      go_wp2_with fail
      refine (sum_parts c (R := flat ps) _ (hT.on hB) (hrs.on hB hsz) (by omega) rfl).mono ?_
      rintro e w2 ⟨rfl, hb⟩
      replace hB : Below w.heap.size w w2 := hB.trans (hb.mono hsz)
      clear hb hsz
      have hsz := hB.size
      go_wp2_with fail
      refine (rsum_out c _ (hrs.on hB hsz) (by omega)).mono ?_
      rintro e w3 ⟨rfl, hb⟩
      replace hB : Below w.heap.size w w3 := hB.trans (hb.mono hsz)
      clear hb hsz
      have hsz := hB.size
      go_wp2_with fail
      refine (four_c s _ hs).mono ?_
      rintro e w4 ⟨rfl, hb⟩
      replace hB : Below w.heap.size w w4 := hB.trans (hb.mono hsz)
      clear hb hsz
      have hsz := hB.size
      go_wp2_with fail
      refine (rfour_any s _ hs).mono ?_
      rintro e w5 ⟨rfl, hb⟩
      replace hB : Below w.heap.size w w5 := hB.trans (hb.mono hsz)
      clear hb hsz
      have hsz := hB.size
      go_wp2_with fail
      refine (wakes_any _ (hT.on hB)).mono ?_
      rintro e w' ⟨rfl, hbw⟩
      go_wp2_with fail
      go_ret
      exact ⟨rfl, hB.trans (hbw.mono hsz)⟩

theorem tells_all (A : Option Addr) (n c : Nat) (ps : List Part) (s h : Int) (w : World) (hT : Tab w) (hr : Raw w w.heap.size A n ps) (_hnc : n ≤ c) (hs : 0 ≤ s ∧ s < 4294967296) (hh : 0 ≤ h ∧ h ≤ 255) :
    Calls Tryd.prog 3 #[.slice A n c, .int .u32 s, .int .u8 h] w fun e w' => e = .returned (.bool true) ∧ Below w.heap.size w w' := by
  by_cases h40 : 40 < n
  · have hd : decide ((40 : Int) < (n : Int)) = true := by simp; omega
    go_enter Tryd.func3, Tryd.ntmps3
    go_wp2_with fail
    refine (wakes_any _ hT).mono ?_
    rintro e w' ⟨rfl, hb⟩
    go_wp2_with fail
    go_ret
    exact ⟨rfl, hb⟩
  · exact tells_in A n c ps s h w hT hr hs hh (by omega)

end Go.Proofs.YtnojphkfniimgaaDoor
