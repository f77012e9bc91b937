/-
  What the laws of layer 10 ask, plainly; answers told piece by piece; same.
-/
import Derived.Test.YtcpdjhkpmaamdaaGreatEitB
import Derived.Test.YtcpdjhkpmaamdaaGreatPl8
namespace Go.Proofs.YtcpdjhkpmaamdaaGreat
open Go.RowKit
set_option linter.unusedVariables false

set_option maxRecDepth 100000 in
set_option maxHeartbeats 400000 in
/-- same: it tells whether two slices hold the same bytes; nothing turns. -/
theorem same_any (A A' : Option Addr) (n n' c c' : Nat) (l m : List Int) (w : World) (hr : Rd w w.heap.size .u8 A n l) (hr' : Rd w w.heap.size .u8 A' n' m) (hl : Byt l) (hm : Byt m) :
    Calls Tryz.prog 12 #[.slice A n c, .slice A' n' c'] w fun e w' => e = .returned (.bool (Cr.eqB l m)) ∧ w = w' := by
  have q1 := Cr.run_txt (P := Tryz.prog) (c := c) 23 9 5 Tryz.underlying23 Tryz.underlying5 Tryz.underlying9 hr
  have q2 := Cr.run_txt (P := Tryz.prog) (c := c') 23 9 5 Tryz.underlying23 Tryz.underlying5 Tryz.underlying9 hr'
  have H := Lib.hid (Cr.txt_beq hl hm)
  clear hr hr' hl hm
  go_enter Tryz.func12, Tryz.ntmps12
  go_wp2
  go_ret
  exact ⟨ret_bool H.out, rfl⟩
theorem same_self (A A' : Option Addr) (n c c' : Nat) (l : List Int) (w : World) (hr : Rd w w.heap.size .u8 A n l) (hr' : Rd w w.heap.size .u8 A' n l) (hl : Byt l) :
    Calls Tryz.prog 12 #[.slice A n c, .slice A' n c'] w fun e w' => e = .returned (.bool true) ∧ w = w' := by
  have h := same_any A A' n n c c' l l w hr hr' hl hl
  rw [Cr.eqB_true rfl] at h
  exact h
theorem ents_self (A A' : Option Addr) (n c c' : Nat) (l : List EnP) (w : World) (hr : Es w w.heap.size A n l) (hr' : Es w w.heap.size A' n l) (hn : n ≤ 1000000000) :
    Calls Tryz.prog 23 #[.slice A n c, .slice A' n c'] w fun e w' => e = .returned (.bool true) ∧ Below w.heap.size w w' := by
  have h := ents_anyTw A A' n n c c' l l w hr hr' hn hn
  rw [eqE_trueTw rfl] at h
  exact h

theorem TelE.out {w w' : World} {R : List Int × Int} {e : Ending} {L : List Int} {er : Int} {q : Nat} (h : TelE w R e w') (hR : R = (L, er)) (hq : L.length = q) :
    ∃ A c, e = .returned (.tuple #[.slice A q c, .int .i64 er]) ∧ q ≤ c ∧ Rd w' w'.heap.size .u8 A q L ∧ Below w.heap.size w w' := by
  subst hR hq
  obtain ⟨⟨A, n, c, rfl, h1, h2, h3⟩, hb⟩ := h
  have h1' : L.length = n := h1
  subst h1'
  exact ⟨A, c, rfl, h2, h3, hb⟩
theorem ScR.yes [Inhabited Cr.Rows16] {t : Int} {w w' : World} {b : List Int} {e : Ending} {f : Int} {l : List EnP} {u n : Nat} (h : ScR t w b e w') (hs : ScnIs t b f l u) (hn : l.length = n) :
    ∃ A c, e = .returned (.tuple #[.agg #[.int .i64 f, .slice A n c, .int .i64 (u : Nat)], .int .i64 0]) ∧ n ≤ c ∧ Es w' w'.heap.size A n l ∧ Below w.heap.size w w' := by
  obtain ⟨⟨g, A, m, c, v, er, rfl, hA⟩, hb⟩ := h
  rcases hA with ⟨h1, _⟩ | ⟨h1, _⟩ | ⟨k, h1, h2, h3, h4, rfl⟩
  · exact absurd hs.fmt h1
  · exact (hs.not h1).elim
  · obtain ⟨rfl, rfl, rfl⟩ := hs.same h1
    subst hn h2
    exact ⟨A, c, rfl, h3, h4, hb⟩
theorem ScR.no [Inhabited Cr.Rows16] {t : Int} {w w' : World} {b : List Int} {e : Ending} (h : ScR t w b e w') (hs : NoScn t b) :
    ∃ A c, e = .returned (.tuple #[.agg #[.int .i64 0, .slice A 0 c, .int .i64 0], .int .i64 11]) ∧ Below w.heap.size w w' := by
  obtain ⟨⟨g, A, m, c, v, er, rfl, hA⟩, hb⟩ := h
  rcases hA with ⟨h1, _⟩ | ⟨h1, rfl, rfl, rfl, rfl⟩ | ⟨k, h1, h2, h3, h4, rfl⟩
  · exact absurd hs.fmt h1
  · exact ⟨A, c, rfl, hb⟩
  · exact (h1.not hs).elim

theorem cs_le {cs : List (List EnP)} (h : Good cs) : cs.length ≤ cs.flatten.length := by
  induction cs with
  | nil => simp
  | cons c cs ih =>
    have h1 := (h c (by simp)).1
    have h2 := ih (fun x hx => h x (by simp [hx]))
    rw [List.flatten_cons, List.length_append, List.length_cons]
    omega
theorem SegIs.len [Inhabited Cr.Rows16] {t : Int} {b : List Int} {f : Int} {l : List EnP} (h : SegIs t b f l) : b.length ≤ 6 + 65 * l.length := by
  rcases h with ⟨_, h⟩ | ⟨_, cs, h, rfl⟩
  · have := h.len; omega
  · have e := congrArg List.length h.bytes
    rw [List.append_nil, List.length_append] at e
    have h1 := blks_le (p := headE f) h.good
    have h2 := cs_le h.good
    have h3 := head_length h.1
    omega
theorem SegIs.noScn [Inhabited Cr.Rows16] {t t' : Int} {b : List Int} {f : Int} {l : List EnP} (h : SegIs t b f l) (ht : t' = 3 - t) : NoScn t' b := by
  subst ht
  have hf := h.fmt
  rcases scn_cases (t := 3 - t) (by unfold FmtE at hf; omega) b with k | ⟨g, m, u, k⟩
  · exact k
  · exact (scn_not h.scn k).elim
theorem fmt_file [Inhabited Cr.Rows16] {t f : Int} {l : List EnP} (ht : FmtE t) (hf : 1 ≤ f ∧ f ≤ 1073741824) (hl : AllR l) : ∃ B q, fileE t f l = (B, 0) ∧ SegIs t B f l ∧ B.length = q ∧ q ≤ 6 + 65 * l.length := by
  obtain ⟨B, h1, h2⟩ := file_seg ht hf hl
  exact ⟨B, _, h1, h2, rfl, h2.len⟩
/-- What EitherTurns asks. -/
theorem turns10 [Inhabited Cr.Rows16] {t t' f : Int} {l : List EnP} {n : Nat} (ht : FmtE t) (ht' : FmtE t') (hf : 1 ≤ f ∧ f ≤ 1073741824) (hl : AllR l) (hn : l.length = n) (h30 : n ≤ 30) :
    ∃ (B C : List Int) (q r : Nat), q ≤ 10000 ∧ r ≤ 10000 ∧ fileE t f l = (B, 0) ∧ fileE t' f l = (C, 0) ∧ SegIs t B f l ∧ SegIs t' C f l ∧ B.length = q ∧ C.length = r ∧ NoScn (3 - t) B ∧ ScnIs t' C f l r ∧ (t = t' → B = C ∧ q = r) := by
  obtain ⟨B, q, b1, b2, b3, b4⟩ := fmt_file ht hf hl
  obtain ⟨C, r, c1, c2, c3, c4⟩ := fmt_file ht' hf hl
  refine ⟨B, C, q, r, by omega, by omega, b1, c1, b2, c2, b3, c3, b2.noScn rfl, by rw [← c3]; exact c2.scn, fun e => ?_⟩
  subst e
  rw [b1] at c1
  obtain rfl := (Prod.mk.inj c1).1
  exact ⟨rfl, b3.symm.trans c3⟩

def eThree : EnP := ⟨3, 0, 0⟩
def eFour : EnP := ⟨4, 0, 0⟩
theorem e34_right : AllR [eThree] ∧ AllR [eFour] := by
  refine ⟨?_, ?_⟩ <;> (rw [← allR_iff]; simp [allR, rightB, RightP, eThree, eFour])
theorem no_seven (p : Int × Int) : NoBlock p [7] := by
  rintro l ⟨_, r, e⟩
  have := congrArg List.length e
  rw [List.length_append, block_length] at this
  simp at this
  omega
theorem seg_byte [Inhabited Cr.Rows16] {B : List Int} {f : Int} {l : List EnP} (h : SegIs 2 B f l) : NoSeg 2 (B ++ [7]) := by
  intro g m hs
  rcases h with ⟨e, _⟩ | ⟨_, cs, h, _⟩
  · cases e
  rcases hs with ⟨e, _⟩ | ⟨_, ds, hs, _⟩
  · cases e
  have e := h.bytes
  rw [List.append_nil] at e
  have hsc : ScanIs (B ++ [7]) f cs [7] := by
    rw [e]
    exact scan_of h.1 h.good (no_seven _)
  have h3 := (scan_same hsc hs).2.2
  cases h3
theorem seg_two_one [Inhabited Cr.Rows16] : SegIs 2 [2, 1] 1 [] := by
  refine .inr ⟨rfl, [], ?_, rfl⟩
  have h := file_scan num_1 Good.nil
  rw [head_one] at h
  simpa [blksL] using h
theorem file_one_one [Inhabited Cr.Rows16] : fileE 1 1 [] = ([1, 0, 0, 0, 0, 1], 0) := by
  have h : fileE 1 1 [] = fileP 1 [] := if_pos rfl
  rw [h]
  unfold fileP
  rw [if_pos ⟨by unfold IdxP; omega, AllR.nil⟩]
  have h1 : headL 1 = [1, 0, 0, 0, 0, 1] := by kernel_rfl
  rw [h1]
  rfl
theorem no_nil [Inhabited Cr.Rows16] : NoScn 1 [] ∧ NoScn 2 [] := by
  refine ⟨.inl ⟨rfl, headO_short (by simp)⟩, .inr ⟨rfl, ?_⟩⟩
  rintro f ⟨_, r, e⟩
  simp [headLTw] at e
/-- What wakes asks of the bytes. -/
theorem wake10 [Inhabited Cr.Rows16] : ∃ (B D : List Int) (q d : Nat), q ≤ 1000 ∧ d ≤ 1000 ∧ fileE 2 9 [eThree] = (B, 0) ∧ SegIs 2 B 9 [eThree] ∧ B.length = q ∧ fileE 1 9 [eThree] = (D, 0) ∧ SegIs 1 D 9 [eThree] ∧ D.length = d := by
  obtain ⟨B, q, b1, b2, b3, b4⟩ := fmt_file (t := 2) (f := 9) (l := [eThree]) (.inr rfl) (by omega) e34_right.1
  obtain ⟨C, r, c1, c2, c3, c4⟩ := fmt_file (t := 1) (f := 9) (l := [eThree]) (.inl rfl) (by omega) e34_right.1
  simp only [List.length_cons, List.length_nil] at b4 c4
  exact ⟨B, C, q, r, by omega, by omega, b1, b2, b3, c1, c2, c3⟩

end Go.Proofs.YtcpdjhkpmaamdaaGreat
