/-
  names.Parse: its contract.
-/
import Derived.Test.YtbfdjjkphmchgaaDoorApart
import Derived.Test.YtbfdjjkphmchgaaDoorNameA
namespace Go.Proofs.YtbfdjjkphmchgaaDoor
open Go.RowKit Go.Maps

/-- What a name says, and whether. -/
def parseP (nm : ByteArray) : IdP × Bool := if MayP (apartF nm.data.toList) ∧ nameP (apartF nm.data.toList) = nm then (apartF nm.data.toList, true) else (⟨0, 0, 0⟩, false)

theorem step_in (s : Int) (c : UInt8) : -9223372036854775808 ≤ stepD s c ∧ stepD s c ≤ 9223372036854775807 := by
  unfold stepD
  rw [IntKind.wrap_i64]
  omega
theorem fold_in : ∀ (l : List UInt8) (s : Int), (-9223372036854775808 ≤ s ∧ s ≤ 9223372036854775807) → -9223372036854775808 ≤ l.foldl stepD s ∧ l.foldl stepD s ≤ 9223372036854775807 := by
  intro l
  induction l with
  | nil => intro s h; exact h
  | cons c l ih => intro s _; exact ih _ (step_in s c)
theorem kind_in (b : Int) : 0 ≤ kindP b ∧ kindP b ≤ 255 := by
  unfold kindP
  split
  · omega
  · split <;> omega
theorem fmt_in (bs : List UInt8) : 0 ≤ fmtF bs ∧ fmtF bs ≤ 255 := by
  unfold fmtF
  split
  · unfold subD
    rw [IntKind.wrap_u8]
    omega
  · omega
theorem apart_ok (bs : List UInt8) : (apartF bs).Ok := by
  unfold apartF
  split
  · constructor <;> simp
  · split
    · constructor <;> simp
    · split
      · constructor <;> simp
      · have h1 := kind_in ((bs[0]?.getD 0).toNat : Int)
        have h2 := fold_in (digs bs) 0 (by omega)
        have h3 := fmt_in bs
        exact ⟨h1.1, h1.2, h2.1, h2.2, by simp only; omega, by simp only; omega⟩
theorem parse_yes {nm : ByteArray} (h : MayP (apartF nm.data.toList) ∧ nameP (apartF nm.data.toList) = nm) : parseP nm = (apartF nm.data.toList, true) := if_pos h
theorem parse_no {nm : ByteArray} (h : ¬ (MayP (apartF nm.data.toList) ∧ nameP (apartF nm.data.toList) = nm)) : parseP nm = (⟨0, 0, 0⟩, false) := if_neg h

set_option maxRecDepth 100000 in
set_option maxHeartbeats 4000000 in
theorem parse_any (nm : ByteArray) (hn : nm.size ≤ 3000000000) (w : World) (hP : Pow w) : Calls Tryd.prog 12 #[.string nm] w fun e w' => e = .returned (.tuple #[(parseP nm).1.v, .bool (parseP nm).2]) ∧ Below w.heap.size w w' := by
  have HP := Lib.hid hP
  clear hP
  go_enter Tryd.func12, Tryd.ntmps12
  go_wp2_with fail
  obtain ⟨z, hz⟩ : ∃ z, z = w.heap.size := ⟨_, rfl⟩
  obtain ⟨w0, hw0⟩ : ∃ w0, w0 = w.alloc (.cells #[.int .u8 0, .int .i64 0, .int .i64 0] 23) := ⟨_, rfl⟩
  have hB0 : Below w.heap.size w w0 := by rw [hw0]; exact below_al (below_d0 w) _
  have b0 : BoxI w0 z ⟨0, 0, 0⟩ := by rw [hw0, hz]; exact BoxI.new w ⟨0, 0, 0⟩
  try rw [← hw0, ← hz]
  have Hz := Lib.hid (show w.heap.size ≤ z by omega)
  clear hw0 hz
  refine (apart_any nm hn _).mono ?_
  rintro e w1 ⟨rfl, hB1⟩
  have b1 := b0.below hB1
  replace hB1 := hB0.trans (hB1.mono hB0.size)
  obtain ⟨X, hX⟩ : ∃ X, X = apartF nm.data.toList := ⟨_, rfl⟩
  have hOk : X.Ok := by rw [hX]; exact apart_ok _
  have hyes := parse_yes (nm := nm)
  have hno := parse_no (nm := nm)
  rw [← hX] at hyes hno ⊢
  obtain ⟨f0, f1, f2⟩ := b1.frozen
  obtain ⟨c0, c1, c2⟩ := b1.cells
  have H1 := Lib.hid (⟨hOk, hyes, hno, b1, hB1⟩ : _ ∧ _ ∧ _ ∧ _ ∧ _)
  clear hOk hyes hno hX b0 hB0 b1 hB1
  unfold IdP.v
  go_wp2_with fail
  obtain ⟨w2, hw2⟩ : ∃ w2, w2 = ((w1.setCell ⟨z, 0, none⟩ (.int .u8 X.kind)).setCell ⟨z, 1, none⟩ (.int .i64 X.seq)).setCell ⟨z, 2, none⟩ (.int .i64 X.fmt) := ⟨_, rfl⟩
  have hB2 : Below w.heap.size w w2 := by rw [hw2]; exact ((H1.out.2.2.2.2.setCell Hz.out _).setCell Hz.out _).setCell Hz.out _
  have b2 : BoxI w2 z X := by rw [hw2]; exact ((H1.out.2.2.2.1.s0 X.kind).s1 X.seq).s2 X.fmt
  rw [← hw2]
  clear hw2 c0 c1 c2 f0 f1 f2
  refine (name_any X w2 (HP.out.on hB2) H1.out.1).mono ?_
  rintro e w3 ⟨rfl, hB3⟩
  have b3 := b2.below hB3
  replace hB3 := hB2.trans (hB3.mono hB2.size)
  obtain ⟨f0, f1, f2⟩ := b3.frozen
  obtain ⟨c0, c1, c2⟩ := b3.cells
  obtain ⟨N, hN⟩ : ∃ N, N = nameP X := ⟨_, rfl⟩
  rw [← hN]
  by_cases hM : MayP X
  · have hE : errP X = 0 := if_pos hM
    rw [hE]
    by_cases hNm : N = nm
    · have t1 : (N.toList == nm.toList) = true := by rw [hNm]; simp
      have hR := H1.out.2.1 ⟨hM, by rw [← hN]; exact hNm⟩
      have H2 := Lib.hid (⟨b3, hB3, hR⟩ : _ ∧ _ ∧ _)
      clear hM hE hN b2 hB2 b3 hB3 hR hNm
      go_wp2_with fail
      have b4 := (((H2.out.1.s0 X.kind).s1 X.seq).s2 X.fmt)
      obtain ⟨d0, d1, d2⟩ := b4.cells
      refine bodyPost_ret (v := .tuple #[X.v, .bool true]) (by simp [results, Tryd.results12, go_sem, IdP.v, *]) rfl ⟨by rw [H2.out.2.2], ((H2.out.2.1.setCell Hz.out _).setCell Hz.out _).setCell Hz.out _⟩
    · have t1 : (N.toList == nm.toList) = false := by
        rw [ByteArray.toList_eq, ByteArray.toList_eq]
        refine beq_eq_false_iff_ne.2 fun e => hNm (ba_ext ?_)
        exact Array.toList_inj.1 e
      have hR := H1.out.2.2.1 (by rintro ⟨_, e⟩; rw [← hN] at e; exact hNm e)
      have H2 := Lib.hid (⟨b3, hB3, hR⟩ : _ ∧ _ ∧ _)
      clear hM hE hN b2 hB2 b3 hB3 hR hNm
      go_wp2_with fail
      have b4 := (((H2.out.1.s0 0).s1 0).s2 0)
      obtain ⟨d0, d1, d2⟩ := b4.cells
      refine bodyPost_ret (v := .tuple #[(⟨0, 0, 0⟩ : IdP).v, .bool false]) (by simp [results, Tryd.results12, go_sem, IdP.v, *]) rfl ⟨by rw [H2.out.2.2], ((H2.out.2.1.setCell Hz.out _).setCell Hz.out _).setCell Hz.out _⟩
  · have hE : errP X = 2 := if_neg hM
    rw [hE]
    have hR := H1.out.2.2.1 (fun h => hM h.1)
    have H2 := Lib.hid (⟨b3, hB3, hR⟩ : _ ∧ _ ∧ _)
    clear hM hE hN b2 hB2 b3 hB3 hR
    go_wp2_with fail
    have b4 := (((H2.out.1.s0 0).s1 0).s2 0)
    obtain ⟨d0, d1, d2⟩ := b4.cells
    refine bodyPost_ret (v := .tuple #[(⟨0, 0, 0⟩ : IdP).v, .bool false]) (by simp [results, Tryd.results12, go_sem, IdP.v, *]) rfl ⟨by rw [H2.out.2.2], ((H2.out.2.1.setCell Hz.out _).setCell Hz.out _).setCell Hz.out _⟩

end Go.Proofs.YtbfdjjkphmchgaaDoor
