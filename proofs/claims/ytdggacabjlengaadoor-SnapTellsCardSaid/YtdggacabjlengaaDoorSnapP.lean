/-
  Snapshots, plainly: texts, pieces, snapshots of either format; what is taken; a byte that is another one, one more, one fewer. No program is named here.
-/
import Derived.Test.YtdggacabjlengaaDoorNumT
import Derived.Test.YtdggacabjlengaaDoorNumU
import Derived.Test.YtdggacabjlengaaDoorCrcH
import Derived.Test.YtdggacabjlengaaDoorGaM
import Derived.Test.YtdggacabjlengaaDoorEntM
import Derived.Test.YtdggacabjlengaaDoorChkB
namespace Go.Proofs.YtdggacabjlengaaDoor
open Go.RowKit
set_option linter.unusedVariables false

/-! ### Pieces -/
theorem chunks_ind {α : Type} {k : Nat} (hk : k ≠ 0) {M : List α → Prop} (h0 : M []) (h1 : ∀ l, l ≠ [] → M (l.drop k) → M l) (l : List α) : M l := by
  generalize hn : l.length = n
  induction n using Nat.strongRecOn generalizing l with
  | _ n ih =>
    by_cases hl : l = []
    · rw [hl]; exact h0
    · refine h1 l hl (ih _ ?_ _ rfl)
      have : 0 < l.length := List.length_pos_iff.2 hl
      rw [List.length_drop]; omega
theorem chunks_flat {α : Type} {k : Nat} (hk : k ≠ 0) (l : List α) : (chunks k l).flatten = l := by
  refine chunks_ind hk (M := fun l => (chunks k l).flatten = l) (by rw [chunks_nil]; rfl) (fun l hl ih => ?_) l
  rw [chunks_cons hl hk, List.flatten_cons, ih, List.take_append_drop]
/-- Pieces, each with its chain, behind a point; the point behind them. -/
def pcsL (p : Int × Int) : List (List Int) → List Int
  | [] => []
  | c :: cs => c ++ Ga.bytesP (Ga.chainP p c) ++ pcsL (Ga.chainP p c) cs
def pcsE (p : Int × Int) (cs : List (List Int)) : Int × Int := Ga.chainP p cs.flatten
def pieceL (p : Int × Int) (l : List Int) : List Int := pcsL p (chunks 4 l)
def piecesL (l : List Int) : List Int := pieceL (0, 0) l
theorem bytesP_len (p : Int × Int) : (Ga.bytesP p).length = 4 := rfl
theorem zeroIn : Ga.InP (0, 0) := by unfold Ga.InP; simp
theorem bytesP_byt {p : Int × Int} (h : Ga.InP p) : Byt (Ga.bytesP p) := by
  obtain ⟨⟨a0, a1⟩, b0, b1⟩ := h
  intro x hx
  simp only [Ga.bytesP, List.mem_cons, List.not_mem_nil, or_false] at hx
  rcases hx with rfl | rfl | rfl | rfl <;> omega
theorem bytesP_inj {p q : Int × Int} (hp : Ga.InP p) (hq : Ga.InP q) (h : Ga.bytesP p = Ga.bytesP q) : p = q := by
  obtain ⟨⟨a0, a1⟩, b0, b1⟩ := hp
  obtain ⟨⟨c0, c1⟩, d0, d1⟩ := hq
  simp only [Ga.bytesP, List.cons.injEq, and_true] at h
  exact Prod.ext (by omega) (by omega)
theorem pcsL_append (p : Int × Int) (cs ds : List (List Int)) : pcsL p (cs ++ ds) = pcsL p cs ++ pcsL (pcsE p cs) ds := by
  induction cs generalizing p with
  | nil => rfl
  | cons c cs ih =>
    simp only [List.cons_append, pcsL, ih, List.append_assoc, pcsE, List.flatten_cons, Ga.chainP_append]
theorem pcsE_snoc (p : Int × Int) (cs : List (List Int)) (c : List Int) : pcsE p (cs ++ [c]) = Ga.chainP (pcsE p cs) c := by
  simp [pcsE, Ga.chainP_append]
theorem pcsL_snoc (p : Int × Int) (cs : List (List Int)) (c : List Int) : pcsL p (cs ++ [c]) = pcsL p cs ++ c ++ Ga.bytesP (pcsE p (cs ++ [c])) := by
  rw [pcsL_append, pcsE_snoc]
  simp [pcsL]
theorem pcsE_in {p : Int × Int} (hp : Ga.InP p) (cs : List (List Int)) : Ga.InP (pcsE p cs) := Ga.chainP_in hp _
theorem piece_nil (p : Int × Int) : pieceL p [] = [] := by rw [pieceL, chunks_nil]; rfl
theorem piece_cons {p : Int × Int} {l : List Int} (hl : l ≠ []) : pieceL p l = l.take 4 ++ (Ga.bytesP (Ga.chainP p (l.take 4)) ++ pieceL (Ga.chainP p (l.take 4)) (l.drop 4)) := by
  rw [pieceL, chunks_cons hl (by omega), pcsL, List.append_assoc]
  rfl
theorem piece_short {p : Int × Int} {l : List Int} (h0 : l ≠ []) (h : l.length ≤ 4) : pieceL p l = l ++ Ga.bytesP (Ga.chainP p l) := by
  rw [piece_cons h0, List.take_of_length_le h, List.drop_of_length_le h, piece_nil, List.append_nil]
theorem piece_byt {p : Int × Int} (hp : Ga.InP p) {l : List Int} (hl : Byt l) : Byt (pieceL p l) := by
  revert p
  revert hl
  refine chunks_ind (k := 4) (by omega) (M := fun l => Byt l → ∀ {p : Int × Int}, Ga.InP p → Byt (pieceL p l)) (fun _ p _ => by rw [piece_nil]; exact Byt.nil) (fun l h0 ih hl p hp => ?_) l
  rw [piece_cons h0]
  exact (hl.take 4).append ((bytesP_byt (Ga.chainP_in hp _)).append (ih (hl.drop 4) (Ga.chainP_in hp _)))
theorem piece_len (p : Int × Int) (l : List Int) : (pieceL p l).length = l.length + (l.length + 3) / 4 * 4 := by
  revert p
  refine chunks_ind (k := 4) (by omega) (M := fun l => ∀ p, (pieceL p l).length = l.length + (l.length + 3) / 4 * 4) (fun p => by rw [piece_nil]; rfl) (fun l h0 ih p => ?_) l
  have hpos : 0 < l.length := List.length_pos_iff.2 h0
  rw [piece_cons h0, List.length_append, List.length_append, bytesP_len, ih, List.length_take, List.length_drop]
  omega
/-- The text of pieces. -/
def stripL (l : List Int) : List Int := ((chunks 8 l).map fun c => c.take (c.length - 4)).flatten
theorem strip_nil : stripL [] = [] := by rw [stripL, chunks_nil]; rfl
theorem strip_cons {l : List Int} (h : l ≠ []) : stripL l = (l.take 8).take ((l.take 8).length - 4) ++ stripL (l.drop 8) := by
  rw [stripL, chunks_cons h (by omega)]; rfl
theorem strip_piece (p : Int × Int) (l : List Int) : stripL (pieceL p l) = l := by
  revert p
  refine chunks_ind (k := 4) (by omega) (M := fun l => ∀ p, stripL (pieceL p l) = l) (fun p => by rw [piece_nil, strip_nil]) (fun l h0 ih p => ?_) l
  have hpos : 0 < l.length := List.length_pos_iff.2 h0
  obtain ⟨F, hF⟩ : ∃ F, F = Ga.bytesP (Ga.chainP p (l.take 4)) := ⟨_, rfl⟩
  have hF4 : F.length = 4 := by rw [hF]; rfl
  by_cases h4 : l.length ≤ 4
  · rw [piece_short h0 h4]
    rw [List.take_of_length_le h4] at hF
    rw [← hF]
    have hne : l ++ F ≠ [] := fun e => by rw [List.append_eq_nil_iff] at e; exact h0 e.1
    have hlen : (l ++ F).length = l.length + 4 := by rw [List.length_append, hF4]
    rw [strip_cons hne, List.take_of_length_le (by omega : (l ++ F).length ≤ 8), List.drop_of_length_le (by omega : (l ++ F).length ≤ 8), strip_nil, List.append_nil, hlen, Nat.add_sub_cancel, List.take_left]
  · have hT : (l.take 4).length = 4 := by rw [List.length_take]; omega
    rw [piece_cons h0, ← hF, ← List.append_assoc]
    have hne : (l.take 4 ++ F) ++ pieceL (Ga.chainP p (l.take 4)) (l.drop 4) ≠ [] := fun e => by
      rw [List.append_eq_nil_iff, List.append_eq_nil_iff] at e
      rw [e.1.1] at hT; cases hT
    have h8 : (l.take 4 ++ F).length = 8 := by rw [List.length_append, hT, hF4]
    have e8 : ((l.take 4 ++ F) ++ pieceL (Ga.chainP p (l.take 4)) (l.drop 4)).take 8 = l.take 4 ++ F := List.take_left' h8
    have d8 : ((l.take 4 ++ F) ++ pieceL (Ga.chainP p (l.take 4)) (l.drop 4)).drop 8 = pieceL (Ga.chainP p (l.take 4)) (l.drop 4) := List.drop_left' h8
    have e4 : (l.take 4 ++ F).take 4 = l.take 4 := List.take_left' hT
    rw [strip_cons hne, e8, d8, ih, h8, e4, List.take_append_drop]
theorem piece_inj {p q : Int × Int} {l m : List Int} (h : pieceL p l = pieceL q m) : l = m := by rw [← strip_piece p l, h, strip_piece]
/-- A text that is cut behind whole pieces. -/
theorem piece_cut (p : Int × Int) (l : List Int) : ∀ j, 4 * j ≤ l.length → pieceL p l = pieceL p (l.take (4 * j)) ++ pieceL (Ga.chainP p (l.take (4 * j))) (l.drop (4 * j)) := by
  revert p
  refine chunks_ind (k := 4) (by omega) (M := fun l => ∀ p j, 4 * j ≤ l.length → pieceL p l = pieceL p (l.take (4 * j)) ++ pieceL (Ga.chainP p (l.take (4 * j))) (l.drop (4 * j))) (fun p j hj => ?_) (fun l h0 ih p j hj => ?_) l
  · simp [piece_nil, Ga.chainP_nil]
  · cases j with
    | zero => simp [piece_nil, Ga.chainP_nil]
    | succ j =>
      have hpos : 0 < l.length := List.length_pos_iff.2 h0
      have e1 : l.take (4 * (j + 1)) = l.take 4 ++ (l.drop 4).take (4 * j) := by
        rw [Nat.mul_succ, Nat.add_comm, List.take_add]
      have hne : l.take (4 * (j + 1)) ≠ [] := fun e => by
        have := congrArg List.length e
        rw [List.length_take, List.length_nil] at this
        omega
      have e2 : (l.take (4 * (j + 1))).take 4 = l.take 4 := by rw [List.take_take, Nat.min_eq_left (by omega)]
      have e3 : (l.take (4 * (j + 1))).drop 4 = (l.drop 4).take (4 * j) := by rw [List.drop_take, Nat.mul_succ, Nat.add_sub_cancel]
      have e4 : (l.drop 4).drop (4 * j) = l.drop (4 * (j + 1)) := by rw [List.drop_drop, Nat.mul_succ, Nat.add_comm]
      rw [piece_cons h0, ih _ j (by rw [List.length_drop]; omega), piece_cons (l := l.take (4 * (j + 1))) hne, e2, e3, e1, Ga.chainP_append, e4]
      simp only [List.append_assoc]
/-- The bytes of one piece's text. -/
theorem piece_at {l : List Int} {j : Nat} (hj : 4 * j < l.length) : ((piecesL l).drop (8 * j)).take (min (8 * j + 4) ((piecesL l).length - 4) - 8 * j) = (l.drop (4 * j)).take 4 := by
  have hp := piece_len (0, 0) l
  have h1 := piece_len (0, 0) (l.take (4 * j))
  rw [List.length_take, Nat.min_eq_left (by omega)] at h1
  have h2 : (pieceL (0, 0) (l.take (4 * j))).length = 8 * j := by omega
  have hne : l.drop (4 * j) ≠ [] := fun e => by
    have := congrArg List.length e
    rw [List.length_drop, List.length_nil] at this
    omega
  have e1 : (piecesL l).drop (8 * j) = pieceL (Ga.chainP (0, 0) (l.take (4 * j))) (l.drop (4 * j)) := by
    rw [piecesL, piece_cut (0, 0) l j (by omega), ← h2, List.drop_left]
  have hlen : ((l.drop (4 * j)).take 4).length = min (8 * j + 4) ((piecesL l).length - 4) - 8 * j := by
    rw [List.length_take, List.length_drop, piecesL, hp]
    omega
  rw [e1, piece_cons hne, ← hlen, List.take_left]

/-! ### Snapshots -/
def bitI (b : Bool) : Int := if b = true then 1 else 0
theorem bit_one (b : Bool) : decide (bitI b = 1) = b := by cases b <;> rfl
/-- A state's numbers. -/
def stN (s : StP) : List Int := [s.ix, s.tm, s.sm, s.lv, bitI s.fn]
def textL (s : StP) : List Int := Nu.shortsOf (stN s)
def manyL (l : List Int) : Int := (((l.length + 3) / 4 : Nat) : Int)
def oneL (s : StP) : List Int := 1 :: (Nu.longsOf [s.ix, s.tm, s.sm] ++ [s.lv, bitI s.fn])
def sealL (l : List Int) : List Int := l ++ Cr.fourI (Cr.sumI l)
def snap1 (s : StP) : List Int := sealL (oneL s)
def snap2 (s : StP) : List Int := 2 :: manyL (textL s) :: piecesL (textL s)
def snapL (s : StP) (f : Int) : List Int := if f = 1 then snap1 s else snap2 s
def FmtP (f : Int) : Prop := f = 1 ∨ f = 2
instance (f : Int) : Decidable (FmtP f) := by unfold FmtP; infer_instance
/-- What Text, Put answer. -/
def textP (s : StP) : List Int × Int := if fineB s = true then (textL s, 0) else ([], 2)
def putP (s : StP) (f : Int) : List Int × Int := if fineB s = true ∧ FmtP f then (snapL s f, 0) else ([], 2)
/-- b is the snapshot in that format of s. -/
structure IsSnap (s : StP) (f : Int) (b : List Int) : Prop where
  fine : fineB s = true
  fmt : FmtP f
  eq : b = snapL s f
def noneP : StP := ⟨0, 0, 0, 0, false⟩
/-- What is taken. -/
def TakeIs (b : List Int) (f : Int) (s : StP) (e : Int) : Prop := (e = 0 ∧ IsSnap s f b) ∨ (e = 11 ∧ s = noneP ∧ ∀ t, ¬ IsSnap t f b)

theorem stN_length (s : StP) : (stN s).length = 5 := rfl
theorem fine_nums {s : StP} (h : fineB s = true) : Nu.allNum (stN s) = true := by
  have h1 := fineB_iff.1 h
  obtain ⟨h1, h2, h3, _, h4, _⟩ := h1
  have hb : 0 ≤ bitI s.fn ∧ bitI s.fn ≤ 1073741824 := by unfold bitI; split <;> omega
  simp only [Nu.allNum, stN, List.all_cons, List.all_nil, Bool.and_true, Bool.and_eq_true, Nu.isNum_iff]
  omega
theorem fine_three {s : StP} (h : fineB s = true) : Nu.allNum [s.ix, s.tm, s.sm] = true := by
  have h1 := fineB_iff.1 h
  obtain ⟨h1, h2, h3, _, h4, _⟩ := h1
  simp only [Nu.allNum, List.all_cons, List.all_nil, Bool.and_true, Bool.and_eq_true, Nu.isNum_iff]
  omega
theorem shorts_byt {l : List Int} (h : Nu.allNum l = true) : Byt (Nu.shortsOf l) := fun x hx => by
  obtain ⟨n, hn, hx⟩ := List.mem_flatMap.1 hx
  have h1 := Nu.isNum_iff.1 (List.all_eq_true.1 h n hn)
  exact Nu.short_byt h1.1 h1.2 x hx
theorem shorts_same {l m : List Int} (hl : Nu.allNum l = true) (hm : Nu.allNum m = true) (hlen : l.length = m.length) {r s : List Int} (h : Nu.shortsOf l ++ r = Nu.shortsOf m ++ s) : l = m ∧ r = s := by
  have h1 := Nu.takesP_short hl r
  have h2 := Nu.takesP_short hm s
  rw [h, hlen] at h1
  rw [h1] at h2
  simp only [Prod.mk.injEq, and_true] at h2
  exact h2
theorem bit_inj {a b : Bool} (h : bitI a = bitI b) : a = b := by cases a <;> cases b <;> first | rfl | (unfold bitI at h; simp at h)
theorem stN_inj {s t : StP} (h : stN s = stN t) : s = t := by
  obtain ⟨a, b, c, d, e⟩ := s
  obtain ⟨a', b', c', d', e'⟩ := t
  simp only [stN, List.cons.injEq, and_true] at h
  obtain ⟨rfl, rfl, rfl, rfl, h⟩ := h
  rw [bit_inj h]
theorem text_same {s t : StP} (hs : fineB s = true) (ht : fineB t = true) {r q : List Int} (h : textL s ++ r = textL t ++ q) : s = t ∧ r = q := by
  obtain ⟨h1, h2⟩ := shorts_same (fine_nums hs) (fine_nums ht) rfl h
  exact ⟨stN_inj h1, h2⟩
theorem text_len {s : StP} (h : fineB s = true) : 1 ≤ (textL s).length ∧ (textL s).length ≤ 25 := by
  refine ⟨?_, Nu.shortsOf_length (fine_nums h)⟩
  have h1 := fineB_iff.1 h
  have h2 := (Nu.cnt_bd h1.1.1 h1.1.2).1
  rw [show textL s = Nu.shortOf s.ix ++ Nu.shortsOf [s.tm, s.sm, s.lv, bitI s.fn] from rfl, List.length_append, Nu.shortOf_length]
  omega
theorem text_byt {s : StP} (h : fineB s = true) : Byt (textL s) := shorts_byt (fine_nums h)
theorem long_byt (n : Int) : Byt (Nu.longOf n) := by
  rw [Nu.long_eq]
  intro x hx
  simp only [List.mem_cons, List.not_mem_nil, or_false] at hx
  rcases hx with rfl | rfl | rfl | rfl | rfl <;> omega
theorem longs_byt (l : List Int) : Byt (Nu.longsOf l) := fun x hx => by
  obtain ⟨n, _, hx⟩ := List.mem_flatMap.1 hx
  exact long_byt n x hx
theorem byt_cons {a : Int} {l : List Int} (ha : 0 ≤ a ∧ a ≤ 255) (hl : Byt l) : Byt (a :: l) := fun x hx => by
  rcases List.mem_cons.1 hx with rfl | h
  · exact ha
  · exact hl x h
theorem fine_level {s : StP} (h : fineB s = true) : s.lv = 1 ∨ s.lv = 2 := (fineB_iff.1 h).2.2.2.2.1
theorem bit_byt (b : Bool) : 0 ≤ bitI b ∧ bitI b ≤ 255 := by unfold bitI; split <;> omega
theorem one_byt {s : StP} (h : fineB s = true) : Byt (oneL s) := by
  have := fine_level h
  exact byt_cons (by omega) ((longs_byt _).append (byt_cons (by omega) (byt_cons (bit_byt _) Byt.nil)))
theorem one_length (s : StP) : (oneL s).length = 18 := by
  simp [oneL, Nu.longsOf_length]
theorem fourI_length (x : Int) : (Cr.fourI x).length = 4 := rfl
theorem snap1_length (s : StP) : (snap1 s).length = 22 := by rw [snap1, sealL, List.length_append, one_length, fourI_length]
theorem snap1_byt {s : StP} (h : fineB s = true) : Byt (snap1 s) := (one_byt h).append (Cr.fourI_byt (Cr.sumI_range _))
theorem many_bd {s : StP} (h : fineB s = true) : 1 ≤ manyL (textL s) ∧ manyL (textL s) ≤ 7 := by
  have := text_len h
  unfold manyL
  omega
theorem snap2_byt {s : StP} (h : fineB s = true) : Byt (snap2 s) := byt_cons (by omega) (byt_cons (by have := many_bd h; omega) (piece_byt zeroIn (text_byt h)))
theorem snap2_length (s : StP) : (snap2 s).length = 2 + ((textL s).length + ((textL s).length + 3) / 4 * 4) := by
  rw [snap2, List.length_cons, List.length_cons, piecesL, piece_len]
  omega
theorem snapL_one (s : StP) : snapL s 1 = snap1 s := if_pos rfl
theorem snapL_two (s : StP) : snapL s 2 = snap2 s := if_neg (by omega)
theorem snap_byt {s : StP} (h : fineB s = true) (f : Int) : Byt (snapL s f) := by
  unfold snapL
  split
  · exact snap1_byt h
  · exact snap2_byt h
theorem snap_len {s : StP} (h : fineB s = true) (f : Int) : 7 ≤ (snapL s f).length ∧ (snapL s f).length ≤ 60 := by
  unfold snapL
  split
  · rw [snap1_length]; omega
  · rw [snap2_length]; have := text_len h; omega
theorem IsSnap.byt {s : StP} {f : Int} {b : List Int} (h : IsSnap s f b) : Byt b := h.eq ▸ snap_byt h.fine f
theorem putP_yes {s : StP} {f : Int} (h : fineB s = true) (hf : FmtP f) : putP s f = (snapL s f, 0) := if_pos ⟨h, hf⟩
theorem putP_no {s : StP} {f : Int} (h : ¬ (fineB s = true ∧ FmtP f)) : putP s f = ([], 2) := if_neg h
theorem textP_yes {s : StP} (h : fineB s = true) : textP s = (textL s, 0) := if_pos h
theorem textP_no {s : StP} (h : fineB s = false) : textP s = ([], 2) := if_neg (by rw [h]; simp)
theorem putP_byt (s : StP) (f : Int) : Byt (putP s f).1 := by
  unfold putP
  split
  · rename_i h; exact snap_byt h.1 f
  · exact Byt.nil
theorem putP_len (s : StP) (f : Int) : (putP s f).1.length ≤ 60 := by
  unfold putP
  split
  · rename_i h; exact (snap_len h.1 f).2
  · simp

/-! ### What is put is taken, once -/
/-- The numbers of the first format's bytes. -/
theorem one_parts (s : StP) : chunks 5 (((snap1 s).drop 1).take 15) = [Nu.longOf s.ix, Nu.longOf s.tm, Nu.longOf s.sm] ∧ (snap1 s)[16]?.getD 0 = s.lv ∧ (snap1 s)[17]?.getD 0 = bitI s.fn := by
  have e1 := Nu.long_eq s.ix
  have e2 := Nu.long_eq s.tm
  have e3 := Nu.long_eq s.sm
  have e : snap1 s = 1 :: (Nu.longOf s.ix ++ (Nu.longOf s.tm ++ Nu.longOf s.sm)) ++ ([s.lv, bitI s.fn] ++ Cr.fourI (Cr.sumI (oneL s))) := by
    simp [snap1, sealL, oneL, Nu.longsOf]
  rw [e, e1, e2, e3]
  refine ⟨?_, rfl, rfl⟩
  simp only [List.cons_append, List.nil_append, List.drop_succ_cons, List.drop_zero, List.take_succ_cons, List.take_zero]
  rw [chunks_cons (by simp) (by omega)]
  simp only [List.drop_succ_cons, List.drop_zero, List.take_succ_cons, List.take_zero]
  rw [chunks_cons (by simp) (by omega)]
  simp only [List.drop_succ_cons, List.drop_zero, List.take_succ_cons, List.take_zero]
  rw [chunks_cons (by simp) (by omega)]
  simp only [List.drop_succ_cons, List.drop_zero, List.take_succ_cons, List.take_zero]
  rw [chunks_nil]
theorem long_inj {a b : Int} (ha : 0 ≤ a ∧ a ≤ 1073741824) (hb : 0 ≤ b ∧ b ≤ 1073741824) (h : Nu.longOf a = Nu.longOf b) : a = b := by
  have h1 := Nu.longP_long ha.1 ha.2 []
  have h2 := Nu.longP_long hb.1 hb.2 []
  rw [h, h2] at h1
  injection h1 with h1
  exact h1.symm
theorem snap_same {s t : StP} {f : Int} {b : List Int} (h : IsSnap s f b) (h' : IsSnap t f b) : s = t := by
  have e : snapL s f = snapL t f := by rw [← h.eq, ← h'.eq]
  rcases h.fmt with rfl | rfl
  · rw [snapL_one, snapL_one] at e
    obtain ⟨c1, l1, f1⟩ := one_parts s
    obtain ⟨c2, l2, f2⟩ := one_parts t
    rw [e] at c1 l1 f1
    rw [c2] at c1
    simp only [List.cons.injEq, and_true] at c1
    obtain ⟨a1, a2, a3, _⟩ := fineB_iff.1 h.fine
    obtain ⟨b1, b2, b3, _⟩ := fineB_iff.1 h'.fine
    refine stN_inj ?_
    simp only [stN]
    rw [long_inj a1 b1 c1.1.symm, long_inj a2 b2 c1.2.1.symm, long_inj a3 b3 c1.2.2.symm, ← l1, l2, ← f1, f2]
  · rw [snapL_two, snapL_two] at e
    simp only [snap2, List.cons.injEq, true_and] at e
    have h1 : textL s = textL t := piece_inj e.2
    exact (text_same h.fine h'.fine (r := []) (q := []) (by rw [h1])).1
/-- The text of the second format's bytes. -/
theorem two_text (s : StP) : stripL ((snap2 s).drop 2) = textL s := strip_piece _ _
theorem two_takes {s : StP} (h : fineB s = true) : Nu.takesP (stripL ((snap2 s).drop 2)) 5 = (stN s, [], 0) := by
  have h1 := Nu.takesP_short (fine_nums h) []
  rw [List.append_nil, stN_length] at h1
  rw [two_text]
  exact h1
theorem TakeIs.same {b : List Int} {f : Int} {s t : StP} {d e : Int} (h : TakeIs b f s d) (h' : TakeIs b f t e) : s = t ∧ d = e := by
  rcases h with ⟨rfl, h⟩ | ⟨rfl, rfl, h⟩ <;> rcases h' with ⟨rfl, h'⟩ | ⟨rfl, rfl, h'⟩
  · exact ⟨snap_same h h', rfl⟩
  · exact absurd h (h' s)
  · exact absurd h' (h t)
  · exact ⟨rfl, rfl⟩
theorem TakeIs.yes {b : List Int} {f : Int} {s t : StP} {e : Int} (h : TakeIs b f s e) (h' : IsSnap t f b) : s = t ∧ e = 0 := h.same (.inl ⟨rfl, h'⟩)
theorem TakeIs.no {b : List Int} {f : Int} {s : StP} {e : Int} (h : TakeIs b f s e) (h' : ∀ t, ¬ IsSnap t f b) : s = noneP ∧ e = 11 := h.same (.inr ⟨rfl, rfl, h'⟩)

/-! ### A byte that is another one -/
theorem seal_harm {T : List Int} (hT : Byt T) {m : Nat} (hm : m < T.length + 4) {y : Int} (hy : 0 ≤ y ∧ y ≤ 255) (h0 : y ≠ 0) : Cr.okB ((sealL T).set m (bits .xor .u8 ((sealL T)[m]?.getD 0) y)) = false := by
  obtain ⟨n, hn⟩ : ∃ n, T.length = n := ⟨_, rfl⟩
  have hlen : (sealL T).length = n + 4 := by rw [sealL, List.length_append, hn, fourI_length]
  rw [hn] at hm
  have x0 : ∀ x : Int, 0 ≤ x ∧ x ≤ 255 → bits .xor .u8 x 0 = x := fun x hx => by
    rw [Cr.xor_int hx (by omega), Int.toNat_zero, Nat.xor_zero]; omega
  have hb : Byt (sealL T) := hT.append (Cr.fourI_byt (Cr.sumI_range _))
  by_cases h11 : m ≤ n
  · have h1 := Cr.mix_no (l := T) (k := m) (a := y) (b := 0) (c := 0) (d := 0) hT (by rw [hn]; exact h11) hy (by omega) (by omega) (by omega) (by omega)
    have e1 : Cr.mixI (T ++ Cr.fourI (Cr.sumI T)) m [y, 0, 0, 0] 4 = (sealL T).set m (bits .xor .u8 ((sealL T)[m]?.getD 0) y) := by
      change Cr.mixI (sealL T) m [y, 0, 0, 0] 4 = _
      refine List.ext_getElem? fun i => ?_
      by_cases hi : i = m
      · subst hi
        rw [List.getElem?_set_self (by rw [hlen]; exact hm)]
        exact Cr.mixI_in _ _ _ 4 0 (by omega) (by rw [hlen]; exact hm)
      · rw [List.getElem?_set_ne (by omega)]
        by_cases h2 : m < i ∧ i < m + 4 ∧ i < n + 4
        · obtain ⟨j, rfl⟩ : ∃ j, i = m + j := ⟨i - m, by omega⟩
          rw [Cr.mixI_in _ _ _ 4 j (by omega) (by rw [hlen]; omega)]
          have : ([y, 0, 0, 0] : List Int)[j]?.getD 0 = 0 := by
            rcases (by omega : j = 1 ∨ j = 2 ∨ j = 3) with rfl | rfl | rfl <;> rfl
          rw [this, x0 _ (hb.at_ _), List.getElem?_eq_getElem (by rw [hlen]; omega)]
          rfl
        · by_cases h3 : i < n + 4
          · exact Cr.mixI_out _ _ _ _ _ (by omega)
          · rw [List.getElem?_eq_none (by rw [Cr.mixI_length, hlen]; omega), List.getElem?_eq_none (by rw [hlen]; omega)]
    rwa [e1] at h1
  · have key : ∀ (q : List Int), Byt q → (∀ j, j < 4 → q[j]?.getD 0 = if j = m - n then y else 0) → Cr.mixI (sealL T) n q 4 = (sealL T).set m (bits .xor .u8 ((sealL T)[m]?.getD 0) y) := fun q hq hj => by
      refine List.ext_getElem? fun i => ?_
      by_cases hi : i < n ∨ n + 4 ≤ i
      · rw [Cr.mixI_out _ _ _ _ _ (by omega), List.getElem?_set_ne (by omega)]
      · obtain ⟨j, rfl⟩ : ∃ j, i = n + j := ⟨i - n, by omega⟩
        rw [Cr.mixI_in _ _ _ 4 j (by omega) (by rw [hlen]; omega), hj j (by omega)]
        by_cases hjm : j = m - n
        · have : n + j = m := by omega
          rw [if_pos hjm, this, List.getElem?_set_self (by rw [hlen]; exact hm)]
        · rw [if_neg hjm, x0 _ (hb.at_ _), List.getElem?_set_ne (by omega), List.getElem?_eq_getElem (by rw [hlen]; omega)]
          rfl
    obtain ⟨d, hd⟩ : ∃ d, m = n + d := ⟨m - n, by omega⟩
    rcases (by omega : d = 1 ∨ d = 2 ∨ d = 3) with rfl | rfl | rfl
    · have h1 := Cr.mix_no (l := T) (k := n) (a := 0) (b := y) (c := 0) (d := 0) hT (by omega) (by omega) hy (by omega) (by omega) (by omega)
      have e1 := key [0, y, 0, 0] (Cr.byt4 (by omega) hy (by omega) (by omega)) (fun j hj => by rw [hd, Nat.add_sub_cancel_left]; rcases (by omega : j = 0 ∨ j = 1 ∨ j = 2 ∨ j = 3) with rfl | rfl | rfl | rfl <;> rfl)
      rw [← e1]; exact h1
    · have h1 := Cr.mix_no (l := T) (k := n) (a := 0) (b := 0) (c := y) (d := 0) hT (by omega) (by omega) (by omega) hy (by omega) (by omega)
      have e1 := key [0, 0, y, 0] (Cr.byt4 (by omega) (by omega) hy (by omega)) (fun j hj => by rw [hd, Nat.add_sub_cancel_left]; rcases (by omega : j = 0 ∨ j = 1 ∨ j = 2 ∨ j = 3) with rfl | rfl | rfl | rfl <;> rfl)
      rw [← e1]; exact h1
    · have h1 := Cr.mix_no (l := T) (k := n) (a := 0) (b := 0) (c := 0) (d := y) hT (by omega) (by omega) (by omega) (by omega) hy (by omega)
      have e1 := key [0, 0, 0, y] (Cr.byt4 (by omega) (by omega) (by omega) hy) (fun j hj => by rw [hd, Nat.add_sub_cancel_left]; rcases (by omega : j = 0 ∨ j = 1 ∨ j = 2 ∨ j = 3) with rfl | rfl | rfl | rfl <;> rfl)
      rw [← e1]; exact h1
theorem seal_ok {T : List Int} (hT : Byt T) : Cr.okB (sealL T) = true := by
  have h : (sealL T).length - 4 = T.length := by rw [sealL, List.length_append, fourI_length]; omega
  unfold Cr.okB
  rw [h, sealL, List.take_left]
  simp [fourI_length, Cr.eqB]
/-- Pieces with a byte that is another one are none of a text as long. -/
theorem piece_harm (l : List Int) : Byt l → ∀ (p : Int × Int), Ga.InP p → ∀ (k : Nat) (x : Int), k < (pieceL p l).length → (0 ≤ x ∧ x ≤ 255) → x ≠ (pieceL p l)[k]?.getD 0 → ∀ m, (pieceL p l).set k x ≠ pieceL p m := by
  refine chunks_ind (k := 4) (by omega) (M := fun l => Byt l → ∀ (p : Int × Int), Ga.InP p → ∀ (k : Nat) (x : Int), k < (pieceL p l).length → (0 ≤ x ∧ x ≤ 255) → x ≠ (pieceL p l)[k]?.getD 0 → ∀ m, (pieceL p l).set k x ≠ pieceL p m) (fun _ p hp k x hk => by rw [piece_nil] at hk; simp at hk) (fun l h0 ih hl p hp k x hk hx hne m e => ?_) l
  have hpos : 0 < l.length := List.length_pos_iff.2 h0
  have hlen : l.length = m.length := by
    have h1 := congrArg List.length e
    rw [List.length_set, piece_len, piece_len] at h1
    omega
  have hm0 : m ≠ [] := fun e0 => by rw [e0] at hlen; simp at hlen; exact h0 hlen
  obtain ⟨c, hc⟩ : ∃ c, c = l.take 4 := ⟨_, rfl⟩
  obtain ⟨d, hd⟩ : ∃ d, d = m.take 4 := ⟨_, rfl⟩
  have hcd : c.length = d.length := by rw [hc, hd, List.length_take, List.length_take, hlen]
  have hcb : Byt c := hc ▸ hl.take 4
  rw [piece_cons h0, piece_cons hm0, ← hc, ← hd] at e
  rw [piece_cons h0, ← hc] at hk hne
  by_cases h1 : k < c.length
  · rw [List.set_append_left _ _ h1] at e
    obtain ⟨e1, e2⟩ := List.append_inj e (by rw [List.length_set]; exact hcd)
    obtain ⟨e3, _⟩ := List.append_inj e2 rfl
    rw [List.getElem?_append_left h1] at hne
    refine Ga.chainP_set (p := p) h1 hcb hx hne ?_
    rw [e1]
    exact (bytesP_inj (Ga.chainP_in hp _) (Ga.chainP_in hp _) e3).symm
  · rw [List.set_append_right _ _ (by omega)] at e
    rw [List.getElem?_append_right (by omega)] at hne
    obtain ⟨e1, e2⟩ := List.append_inj e hcd
    subst e1
    rw [List.length_append] at hk
    by_cases h2 : k - c.length < 4
    · rw [List.set_append_left _ _ (by rw [bytesP_len]; exact h2)] at e2
      rw [List.getElem?_append_left (by rw [bytesP_len]; exact h2)] at hne
      obtain ⟨e3, _⟩ := List.append_inj e2 (by rw [List.length_set])
      have h9 := congrArg (fun L : List Int => L[k - c.length]?.getD 0) e3
      simp only [List.getElem?_set_self (show k - c.length < (Ga.bytesP (Ga.chainP p c)).length by rw [bytesP_len]; exact h2), Option.getD_some] at h9
      exact hne h9
    · rw [List.set_append_right _ _ (by rw [bytesP_len]; omega), bytesP_len] at e2
      rw [List.getElem?_append_right (by rw [bytesP_len]; omega), bytesP_len] at hne
      obtain ⟨_, e3⟩ := List.append_inj e2 rfl
      rw [List.length_append, bytesP_len] at hk
      exact ih (hl.drop 4) _ (Ga.chainP_in hp _) _ x (by omega) hx hne _ e3
theorem snap_harm {s t : StP} {f : Int} {b : List Int} (h : IsSnap s f b) {k : Nat} (hk : k < b.length) {y : Int} (hy : 0 ≤ y ∧ y ≤ 255) (h0 : y ≠ 0) : ¬ IsSnap t f (b.set k (bits .xor .u8 (b[k]?.getD 0) y)) := by
  intro h'
  have hb := h.byt
  obtain ⟨x, hx⟩ : ∃ x, x = bits .xor .u8 (b[k]?.getD 0) y := ⟨_, rfl⟩
  have hxb : 0 ≤ x ∧ x ≤ 255 := by
    rw [hx, Cr.xor_int (hb.at_ k) hy]
    exact Cr.xor_int_range _ _ (hb.at_ k) hy
  have hxne : x ≠ b[k]?.getD 0 := by
    rw [hx, Cr.xor_int (hb.at_ k) hy]
    intro e
    have h2 := (hb.at_ k).1
    obtain ⟨u, hu⟩ : ∃ u, (b[k]?.getD 0).toNat = u := ⟨_, rfl⟩
    rw [hu] at e
    have e3 : u ^^^ y.toNat = u := by omega
    have e4 : u ^^^ (u ^^^ y.toNat) = u ^^^ u := by rw [e3]
    rw [← Nat.xor_assoc, Nat.xor_self, Nat.zero_xor] at e4
    omega
  rcases h.fmt with rfl | rfl
  · have e1 : b = sealL (oneL s) := by rw [h.eq, snapL_one]; rfl
    have h1 := seal_harm (one_byt h.fine) (m := k) (by rw [one_length]; rw [e1] at hk; rw [sealL, List.length_append, one_length, fourI_length] at hk; omega) hy h0
    rw [← e1, h'.eq, snapL_one, snap1, seal_ok (one_byt h'.fine)] at h1
    cases h1
  · rw [← hx] at h'
    have e1 : b = snap2 s := by rw [h.eq, snapL_two]
    have e2 : b.set k x = snap2 t := by rw [h'.eq, snapL_two]
    rw [e1] at e2 hxne hk
    have hlen := congrArg List.length e2
    rw [List.length_set, snap2_length, snap2_length] at hlen
    have hll : (textL s).length = (textL t).length := by omega
    match k, hk, hxne, e2 with
    | 0, hk, hxne, e2 =>
      simp only [snap2, List.set_cons_zero, List.cons.injEq] at e2
      exact hxne (by rw [e2.1]; rfl)
    | 1, hk, hxne, e2 =>
      simp only [snap2, List.set_cons_succ, List.set_cons_zero, List.cons.injEq] at e2
      refine hxne ?_
      rw [e2.2.1]
      show manyL (textL t) = manyL (textL s)
      rw [manyL, manyL, hll]
    | k + 2, hk, hxne, e2 =>
      simp only [snap2, List.set_cons_succ, List.cons.injEq] at e2
      have hk2 : k < (pieceL (0, 0) (textL s)).length := by
        simp only [snap2, List.length_cons] at hk
        exact Nat.lt_of_succ_lt_succ (Nat.lt_of_succ_lt_succ hk)
      exact piece_harm (textL s) (text_byt h.fine) (0, 0) zeroIn k x hk2 hxb hxne _ e2.2.2
/-- One byte more is none. -/
theorem snap_more {s t : StP} {f : Int} {b : List Int} (h : IsSnap s f b) (x : Int) : ¬ IsSnap t f (b ++ [x]) := by
  intro h'
  have e : snapL s f ++ [x] = snapL t f := by rw [← h.eq, ← h'.eq]
  rcases h.fmt with rfl | rfl
  · rw [snapL_one, snapL_one] at e
    have h1 := congrArg List.length e
    rw [List.length_append, snap1_length, snap1_length] at h1
    simp at h1
  · rw [snapL_two, snapL_two] at e
    simp only [snap2, List.cons_append, List.cons.injEq, true_and] at e
    obtain ⟨hm, e⟩ := e
    obtain ⟨l, hl⟩ : ∃ l, l = textL s := ⟨_, rfl⟩
    obtain ⟨m, hml⟩ : ∃ m, m = textL t := ⟨_, rfl⟩
    rw [← hl, ← hml] at hm e
    have hlen := congrArg List.length e
    rw [List.length_append, List.length_singleton, piecesL, piecesL, piece_len, piece_len] at hlen
    unfold manyL at hm
    have hll : m.length = l.length + 1 := by omega
    have hpos : 1 ≤ l.length := hl ▸ (text_len h.fine).1
    -- the text of the one begins the other's
    have key : ∃ y, m = l ++ [y] := by
      obtain ⟨j, hj⟩ : ∃ j, j = (l.length - 1) / 4 := ⟨_, rfl⟩
      have hj4 : 4 * j < l.length ∧ l.length < 4 * j + 4 := by omega
      have c1 := piece_cut (0, 0) l j (by omega)
      have c2 := piece_cut (0, 0) m j (by omega)
      rw [piecesL, piecesL, c1, c2, List.append_assoc] at e
      obtain ⟨e1, e2⟩ := List.append_inj e (by rw [piece_len, piece_len, List.length_take, List.length_take]; omega)
      have t1 := piece_inj e1
      have hn1 : l.drop (4 * j) ≠ [] := fun e0 => by
        have := congrArg List.length e0
        rw [List.length_drop, List.length_nil] at this
        omega
      have hn2 : m.drop (4 * j) ≠ [] := fun e0 => by
        have := congrArg List.length e0
        rw [List.length_drop, List.length_nil] at this
        omega
      rw [piece_short hn1 (by rw [List.length_drop]; omega), piece_short hn2 (by rw [List.length_drop]; omega)] at e2
      have e3 := congrArg (List.take (l.drop (4 * j)).length) e2
      rw [List.append_assoc, List.take_left, List.take_append_of_le_length (by rw [List.length_drop, List.length_drop]; omega)] at e3
      refine ⟨m[l.length]?.getD 0, ?_⟩
      have e4 : m.take l.length = l := by
        rw [← List.take_append_drop (4 * j) l, ← List.take_append_drop (4 * j) m, ← t1, List.take_append_drop]
        have h5 : l.length = (l.take (4 * j)).length + (l.drop (4 * j)).length := by rw [← List.length_append, List.take_append_drop]
        rw [h5, List.take_length_add_append, ← e3, List.take_append_drop]
      have h6 := take_snoc (l := m) (k := l.length) (by omega)
      rw [List.take_of_length_le (by omega), e4] at h6
      exact h6
    obtain ⟨y, hy⟩ := key
    rw [hl, hml] at hy
    have h1 := (text_same h'.fine h.fine (r := []) (q := [y]) (by rw [List.append_nil, hy])).2
    cases h1
/-- One byte fewer is none. -/
theorem snap_less {s t : StP} {f : Int} {b : List Int} (h : IsSnap s f b) : ¬ IsSnap t f (b.take (b.length - 1)) := by
  intro h'
  have h7 := snap_len h.fine f
  rw [← h.eq] at h7
  have e := take_snoc (l := b) (k := b.length - 1) (by omega)
  rw [show b.length - 1 + 1 = b.length by omega, List.take_length] at e
  exact snap_more h' _ (e ▸ h)
end Go.Proofs.YtdggacabjlengaaDoor
