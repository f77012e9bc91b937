/-
  Segments of the second format, told by lists: heads, blocks, what is scanned; what is cut off, harmed, put elsewhere. No program is named here.
-/
import Derived.Test.YtcpdjhkpmaamdaaGreatNumU
import Derived.Test.YtcpdjhkpmaamdaaGreatGaM
import Derived.Test.YtcpdjhkpmaamdaaGreatEntM
import Derived.Test.YtcpdjhkpmaamdaaGreatChunk
namespace Go.Proofs.YtcpdjhkpmaamdaaGreat

/-- The numbers of an entry, of entries. -/
def nums (e : EnP) : List Int := [e.tm, e.kd, e.vl]
def numsL (l : List EnP) : List Int := l.flatMap nums
def allR (l : List EnP) : Bool := l.all rightB
/-- A block's bytes without the last four; the point behind it; a block. -/
def bodyL (l : List EnP) : List Int := (l.length : Int) :: Nu.shortsOf (numsL l)
def endP (p : Int × Int) (l : List EnP) : Int × Int := Ga.chainP p (bodyL l)
def blockL (p : Int × Int) (l : List EnP) : List Int := bodyL l ++ Ga.bytesP (endP p l)
/-- Blocks one behind the other, and the point behind them. -/
def blksL (p : Int × Int) : List (List EnP) → List Int
  | [] => []
  | c :: cs => blockL p c ++ blksL (endP p c) cs
def blksE (p : Int × Int) : List (List EnP) → Int × Int
  | [] => p
  | c :: cs => blksE (endP p c) cs
def headLTw (first : Int) : List Int := 2 :: Nu.shortOf first
def headE (first : Int) : Int × Int := Ga.chainP (0, 0) (headLTw first)
/-- What may be one block's entries; what may be those of blocks. -/
def GoodC (l : List EnP) : Prop := 1 ≤ l.length ∧ l.length ≤ 4 ∧ allR l = true
def Good (cs : List (List EnP)) : Prop := ∀ c ∈ cs, GoodC c
def Num (n : Int) : Prop := 1 ≤ n ∧ n ≤ 1073741824
/-- b begins with the block of these entries behind p; with a head; no block stands there. -/
def BlockAt (p : Int × Int) (b : List Int) (l : List EnP) : Prop := GoodC l ∧ ∃ r, b = blockL p l ++ r
def NoBlock (p : Int × Int) (b : List Int) : Prop := ∀ l, ¬ BlockAt p b l
def HeadAt (b : List Int) (first : Int) : Prop := Num first ∧ ∃ r, b = headLTw first ++ r
/-- What is scanned: the head, the blocks, what is left. -/
def BlksAre (p : Int × Int) (b : List Int) (cs : List (List EnP)) (r : List Int) : Prop := Good cs ∧ b = blksL p cs ++ r ∧ NoBlock (blksE p cs) r
def ScanIs (b : List Int) (first : Int) (cs : List (List EnP)) (r : List Int) : Prop := Num first ∧ ∃ r0, b = headLTw first ++ r0 ∧ BlksAre (headE first) r0 cs r

theorem nums_length (l : List EnP) : (numsL l).length = 3 * l.length := by
  induction l with
  | nil => rfl
  | cons e l ih => rw [show numsL (e :: l) = nums e ++ numsL l from rfl, List.length_append, ih, List.length_cons]; simp [nums]; omega
theorem nums_cons (e : EnP) (l : List EnP) : numsL (e :: l) = e.tm :: e.kd :: e.vl :: numsL l := rfl
theorem nums_append (l m : List EnP) : numsL (l ++ m) = numsL l ++ numsL m := List.flatMap_append
theorem nums_inj {l m : List EnP} (h : numsL l = numsL m) : l = m := by
  induction l generalizing m with
  | nil =>
    cases m with
    | nil => rfl
    | cons e m => cases h
  | cons e l ih =>
    cases m with
    | nil => cases h
    | cons f m =>
      rw [nums_cons, nums_cons] at h
      injection h with h1 h
      injection h with h2 h
      injection h with h3 h
      rw [ih h]
      cases e; cases f
      simp only at h1 h2 h3
      rw [h1, h2, h3]
theorem right_nums {e : EnP} (h : rightB e = true) : Nu.allNum (nums e) = true := by
  have h1 := rightB_iff.1 h
  unfold RightP at h1
  simp only [Nu.allNum, nums, List.all_cons, List.all_nil, Bool.and_true, Bool.and_eq_true, Nu.isNum_iff]
  omega
theorem allR_cons (e : EnP) (l : List EnP) : allR (e :: l) = (rightB e && allR l) := rfl
theorem allR_append (l m : List EnP) : allR (l ++ m) = (allR l && allR m) := List.all_append
theorem allR_nums {l : List EnP} (h : allR l = true) : Nu.allNum (numsL l) = true := by
  induction l with
  | nil => rfl
  | cons e l ih =>
    rw [allR_cons, Bool.and_eq_true] at h
    have h1 := right_nums h.1
    have h2 := ih h.2
    rw [show numsL (e :: l) = nums e ++ numsL l from rfl]
    unfold Nu.allNum at h1 h2 ⊢
    rw [List.all_append, h1, h2]
    rfl
theorem allR_take {l : List EnP} (h : allR l = true) (k : Nat) : allR (l.take k) = true := List.all_eq_true.2 fun x hx => List.all_eq_true.1 h x (List.mem_of_mem_take hx)
theorem allR_drop {l : List EnP} (h : allR l = true) (k : Nat) : allR (l.drop k) = true := List.all_eq_true.2 fun x hx => List.all_eq_true.1 h x (List.mem_of_mem_drop hx)
theorem allR_no {l : List EnP} {k : Nat} {e : EnP} (h : l[k]? = some e) (hr : rightB e = false) : allR l = false := by
  cases ha : allR l
  · rfl
  · rw [List.all_eq_true.1 ha e (List.mem_of_getElem? h)] at hr; cases hr

theorem shorts_byt {l : List Int} (h : Nu.allNum l = true) : Byt (Nu.shortsOf l) := fun x hx => by
  obtain ⟨n, hn, hx⟩ := List.mem_flatMap.1 hx
  have h1 := Nu.isNum_iff.1 (List.all_eq_true.1 h n hn)
  exact Nu.short_byt h1.1 h1.2 x hx
theorem bytesP_byt {p : Int × Int} (h : Ga.InP p) : Byt (Ga.bytesP p) := by
  obtain ⟨⟨a0, a1⟩, b0, b1⟩ := h
  intro x hx
  simp only [Ga.bytesP, List.mem_cons, List.not_mem_nil, or_false] at hx
  rcases hx with rfl | rfl | rfl | rfl <;> omega
theorem bytesP_inj {p q : Int × Int} (hp : Ga.InP p) (hq : Ga.InP q) (h : Ga.bytesP p = Ga.bytesP q) : p = q := by
  obtain ⟨⟨a0, a1⟩, b0, b1⟩ := hp
  obtain ⟨⟨c0, c1⟩, d0, d1⟩ := hq
  simp only [Ga.bytesP, List.cons.injEq, and_true] at h
  exact Prod.ext (by omega) (by omega)
theorem bytesP_len (p : Int × Int) : (Ga.bytesP p).length = 4 := rfl
theorem zeroIn : Ga.InP (0, 0) := by unfold Ga.InP; simp
theorem headE_in (first : Int) : Ga.InP (headE first) := Ga.chainP_in zeroIn _
theorem endP_in {p : Int × Int} (h : Ga.InP p) (l : List EnP) : Ga.InP (endP p l) := Ga.chainP_in h _
theorem blksE_in {p : Int × Int} (h : Ga.InP p) (cs : List (List EnP)) : Ga.InP (blksE p cs) := by
  induction cs generalizing p with
  | nil => exact h
  | cons c cs ih => exact ih (endP_in h c)
theorem blksL_append (p : Int × Int) (cs ds : List (List EnP)) : blksL p (cs ++ ds) = blksL p cs ++ blksL (blksE p cs) ds := by
  induction cs generalizing p with
  | nil => rfl
  | cons c cs ih => simp only [List.cons_append, blksL, blksE, ih, List.append_assoc]
theorem blksE_append (p : Int × Int) (cs ds : List (List EnP)) : blksE p (cs ++ ds) = blksE (blksE p cs) ds := by
  induction cs generalizing p with
  | nil => rfl
  | cons c cs ih => simp only [List.cons_append, blksE, ih]
theorem body_length (l : List EnP) : (bodyL l).length = 1 + (Nu.shortsOf (numsL l)).length := by simp [bodyL]; omega
theorem block_length (p : Int × Int) (l : List EnP) : (blockL p l).length = 1 + (Nu.shortsOf (numsL l)).length + 4 := by
  rw [blockL, List.length_append, body_length, bytesP_len]
theorem shorts_le {l : List EnP} (h : allR l = true) : (Nu.shortsOf (numsL l)).length ≤ 15 * l.length := by
  have := Nu.shortsOf_length (allR_nums h)
  rw [nums_length] at this
  omega
theorem body_byt {l : List EnP} (h : GoodC l) : Byt (bodyL l) := by
  intro x hx
  rcases List.mem_cons.1 hx with rfl | hx
  · have := h.2.1; omega
  · exact shorts_byt (allR_nums h.2.2) x hx
theorem block_byt {p : Int × Int} (hp : Ga.InP p) {l : List EnP} (h : GoodC l) : Byt (blockL p l) := (body_byt h).append (bytesP_byt (endP_in hp l))
theorem blks_byt {p : Int × Int} (hp : Ga.InP p) {cs : List (List EnP)} (h : Good cs) : Byt (blksL p cs) := by
  induction cs generalizing p with
  | nil => exact Byt.nil
  | cons c cs ih => exact (block_byt hp (h c (List.mem_cons_self ..))).append (ih (endP_in hp c) fun d hd => h d (List.mem_cons_of_mem _ hd))
theorem head_byt {first : Int} (h : Num first) : Byt (headLTw first) := by
  intro x hx
  rcases List.mem_cons.1 hx with rfl | hx
  · omega
  · exact Nu.short_byt (by have := h.1; omega) h.2 x hx
theorem Good.cons {c : List EnP} {cs : List (List EnP)} (h : Good (c :: cs)) : GoodC c ∧ Good cs := ⟨h c (List.mem_cons_self ..), fun d hd => h d (List.mem_cons_of_mem _ hd)⟩
theorem Good.append {cs ds : List (List EnP)} (h : Good cs) (h' : Good ds) : Good (cs ++ ds) := fun c hc => by
  rcases List.mem_append.1 hc with hc | hc
  · exact h c hc
  · exact h' c hc
theorem Good.nil : Good [] := fun c hc => by cases hc
theorem Good.take {cs : List (List EnP)} (h : Good cs) (k : Nat) : Good (cs.take k) := fun c hc => h c (List.mem_of_mem_take hc)

/-! ### What is put is taken, once -/
theorem shorts_same {l m : List Int} (hl : Nu.allNum l = true) (hm : Nu.allNum m = true) (hlen : l.length = m.length) {r s : List Int} (h : Nu.shortsOf l ++ r = Nu.shortsOf m ++ s) : l = m ∧ r = s := by
  have h1 := Nu.takesP_short hl r
  have h2 := Nu.takesP_short hm s
  rw [h, hlen] at h1
  rw [h1] at h2
  simp only [Prod.mk.injEq, and_true] at h2
  exact h2
theorem body_same {l m : List EnP} (hl : GoodC l) (hm : GoodC m) {r s : List Int} (h : bodyL l ++ r = bodyL m ++ s) : l = m ∧ r = s := by
  simp only [bodyL, List.cons_append, List.cons.injEq] at h
  have h0 : l.length = m.length := by omega
  obtain ⟨h1, h2⟩ := shorts_same (allR_nums hl.2.2) (allR_nums hm.2.2) (by rw [nums_length, nums_length, h0]) h.2
  exact ⟨nums_inj h1, h2⟩
theorem block_same {p : Int × Int} {l m : List EnP} (hl : GoodC l) (hm : GoodC m) {r s : List Int} (h : blockL p l ++ r = blockL p m ++ s) : l = m ∧ r = s := by
  simp only [blockL, List.append_assoc] at h
  obtain ⟨rfl, h1⟩ := body_same hl hm h
  exact ⟨rfl, List.append_cancel_left h1⟩
theorem BlockAt.same {p : Int × Int} {b : List Int} {l m : List EnP} (h : BlockAt p b l) (h' : BlockAt p b m) : l = m := by
  obtain ⟨hl, r, rfl⟩ := h
  obtain ⟨hm, s, e⟩ := h'
  exact (block_same hl hm e).1
theorem blks_same {p : Int × Int} {b r s : List Int} {cs ds : List (List EnP)} (h : BlksAre p b cs r) (h' : BlksAre p b ds s) : cs = ds ∧ r = s := by
  induction cs generalizing p b ds with
  | nil =>
    obtain ⟨_, rfl, hn⟩ := h
    obtain ⟨hg, e, hn'⟩ := h'
    cases ds with
    | nil => exact ⟨rfl, e⟩
    | cons d ds =>
      refine absurd ⟨hg.cons.1, blksL (endP p d) ds ++ s, ?_⟩ (hn d)
      simpa [blksL, blksE] using e
  | cons c cs ih =>
    obtain ⟨hg, rfl, hn⟩ := h
    obtain ⟨hg', e, hn'⟩ := h'
    cases ds with
    | nil =>
      refine absurd ⟨hg.cons.1, blksL (endP p c) cs ++ r, ?_⟩ (hn' c)
      simpa [blksL, blksE] using e.symm
    | cons d ds =>
      simp only [blksL, List.append_assoc] at e
      obtain ⟨rfl, e1⟩ := block_same hg.cons.1 hg'.cons.1 e
      obtain ⟨rfl, rfl⟩ := ih (b := blksL (endP p c) cs ++ r) ⟨hg.cons.2, rfl, hn⟩ ⟨hg'.cons.2, e1, hn'⟩
      exact ⟨rfl, rfl⟩
theorem head_same {f g : Int} (hf : Num f) (hg : Num g) {r s : List Int} (h : headLTw f ++ r = headLTw g ++ s) : f = g ∧ r = s := by
  simp only [headLTw, List.cons_append, List.cons.injEq, true_and] at h
  have h1 := Nu.takeP_short (n := f) (by have := hf.1; omega) hf.2 r
  have h2 := Nu.takeP_short (n := g) (by have := hg.1; omega) hg.2 s
  rw [h] at h1
  rw [h1] at h2
  simp only [Prod.mk.injEq, and_true] at h2
  obtain ⟨rfl, _⟩ := h2
  exact ⟨rfl, List.append_cancel_left h⟩
theorem scan_same {b r s : List Int} {f g : Int} {cs ds : List (List EnP)} (h : ScanIs b f cs r) (h' : ScanIs b g ds s) : f = g ∧ cs = ds ∧ r = s := by
  obtain ⟨hf, r0, rfl, h1⟩ := h
  obtain ⟨hg, s0, e, h2⟩ := h'
  obtain ⟨rfl, rfl⟩ := head_same hf hg e
  obtain ⟨rfl, rfl⟩ := blks_same h1 h2
  exact ⟨rfl, rfl, rfl⟩
/-- There is always one. -/
theorem blks_there (n : Nat) : ∀ (p : Int × Int) (b : List Int), b.length ≤ n → ∃ cs r, BlksAre p b cs r := by
  induction n with
  | zero =>
    intro p b hb
    refine ⟨[], b, Good.nil, rfl, ?_⟩
    rintro l ⟨_, r, e⟩
    have := congrArg List.length e
    rw [List.length_append, block_length] at this
    omega
  | succ n ih =>
    intro p b hb
    by_cases h : ∃ l, BlockAt p b l
    · obtain ⟨l, hl, r, e⟩ := h
      have hlen := congrArg List.length e
      rw [List.length_append, block_length] at hlen
      obtain ⟨cs, r', h1, h2, h3⟩ := ih (endP p l) r (by omega)
      refine ⟨l :: cs, r', ?_, ?_, h3⟩
      · intro c hc
        rcases List.mem_cons.1 hc with rfl | hc
        · exact hl
        · exact h1 c hc
      · rw [e, h2]; simp [blksL]
    · exact ⟨[], b, Good.nil, rfl, fun l hl => h ⟨l, hl⟩⟩
theorem blks_cases (p : Int × Int) (b : List Int) : ∃ cs r, BlksAre p b cs r := blks_there b.length p b (Nat.le_refl _)
theorem scan_cases (b : List Int) : (∀ f, ¬ HeadAt b f) ∨ ∃ f cs r, ScanIs b f cs r := by
  by_cases h : ∃ f, HeadAt b f
  · obtain ⟨f, hf, r, e⟩ := h
    obtain ⟨cs, r', h1⟩ := blks_cases (headE f) r
    exact .inr ⟨f, cs, r', hf, r, e, h1⟩
  · exact .inl fun f hf => h ⟨f, hf⟩
theorem ScanIs.head {b r : List Int} {f : Int} {cs : List (List EnP)} (h : ScanIs b f cs r) : HeadAt b f := ⟨h.1, by obtain ⟨_, r0, e, _⟩ := h; exact ⟨r0, e⟩⟩
theorem ScanIs.bytes {b r : List Int} {f : Int} {cs : List (List EnP)} (h : ScanIs b f cs r) : b = headLTw f ++ blksL (headE f) cs ++ r := by
  obtain ⟨_, r0, rfl, _, rfl, _⟩ := h
  rw [List.append_assoc]
theorem ScanIs.good {b r : List Int} {f : Int} {cs : List (List EnP)} (h : ScanIs b f cs r) : Good cs := by
  obtain ⟨_, r0, _, h, _⟩ := h
  exact h
theorem scan_of {r : List Int} {f : Int} {cs : List (List EnP)} (hf : Num f) (hg : Good cs) (hn : NoBlock (blksE (headE f) cs) r) : ScanIs (headLTw f ++ blksL (headE f) cs ++ r) f cs r :=
  ⟨hf, _, by rw [List.append_assoc], hg, rfl, hn⟩
theorem noBlock_nil (p : Int × Int) : NoBlock p [] := by
  rintro l ⟨_, r, e⟩
  have := congrArg List.length e
  rw [List.length_append, block_length, List.length_nil] at this
  omega
/-- With more behind. -/
theorem scan_more {b r : List Int} {f : Int} {cs ds : List (List EnP)} (hf : Num f) (hg : Good cs) (h : BlksAre (blksE (headE f) cs) b ds r) : ScanIs (headLTw f ++ blksL (headE f) cs ++ b) f (cs ++ ds) r := by
  obtain ⟨h1, h2, h3⟩ := h
  refine ⟨hf, blksL (headE f) cs ++ b, by rw [List.append_assoc], hg.append h1, ?_, ?_⟩
  · rw [blksL_append, h2, List.append_assoc]
  · rw [blksE_append]; exact h3

/-! ### Cut off -/
theorem no_cut {p : Int × Int} {l : List EnP} (hl : GoodC l) (r : List Int) {k : Nat} (hk : k < (blockL p l).length) : NoBlock p ((blockL p l ++ r).take k) := by
  rintro m ⟨hm, s, e⟩
  have e1 : blockL p l ++ r = blockL p m ++ (s ++ (blockL p l ++ r).drop k) := by
    rw [← List.append_assoc, ← e, List.take_append_drop]
  obtain ⟨rfl, _⟩ := block_same hl hm e1
  have h1 := congrArg List.length e
  rw [List.length_append, List.length_take] at h1
  omega
theorem blks_cut {p : Int × Int} {cs : List (List EnP)} (hg : Good cs) (k : Nat) (hk : k ≤ (blksL p cs).length) : ∃ j r, j ≤ cs.length ∧ BlksAre p ((blksL p cs).take k) (cs.take j) r := by
  induction cs generalizing p k with
  | nil => exact ⟨0, [], Nat.le_refl _, Good.nil, by simp [blksL], noBlock_nil _⟩
  | cons c cs ih =>
    by_cases h : k < (blockL p c).length
    · exact ⟨0, _, Nat.zero_le _, Good.nil, rfl, no_cut hg.cons.1 _ h⟩
    · have hk' : k - (blockL p c).length ≤ (blksL (endP p c) cs).length := by
        rw [blksL, List.length_append] at hk
        omega
      obtain ⟨j, r, hj, h1, h2, h3⟩ := ih hg.cons.2 _ hk'
      refine ⟨j + 1, r, by simpa using hj, ?_, ?_, h3⟩
      · intro d hd
        rw [List.take_succ_cons] at hd
        rcases List.mem_cons.1 hd with rfl | hd
        · exact hg.cons.1
        · exact h1 d hd
      · rw [blksL, List.take_append, List.take_of_length_le (by omega), h2, List.take_succ_cons, blksL, List.append_assoc]

/-! ### Entries in rows of k -/
theorem chunks_end {α : Type} {k n : Nat} {l : List α} (h : l.length ≤ n) : chunks k (l.drop n) = [] := by rw [List.drop_of_length_le h, chunks_nil]
theorem chunks_ind {α : Type} {k : Nat} (hk : k ≠ 0) {M : List α → Prop} (h0 : M []) (h1 : ∀ l, l ≠ [] → M (l.drop k) → M l) (l : List α) : M l := by
  generalize hn : l.length = n
  induction n using Nat.strongRecOn generalizing l with
  | _ n ih =>
    by_cases hl : l = []
    · rw [hl]; exact h0
    · refine h1 l hl (ih _ ?_ _ rfl)
      have : 0 < l.length := List.length_pos_iff.2 hl
      rw [List.length_drop]; omega
theorem chunks_flat {α : Type} {k : Nat} (hk : k ≠ 0) (l : List α) : (chunks k l).flatten = l := by
  refine chunks_ind hk (M := fun l => (chunks k l).flatten = l) (by rw [chunks_nil]; rfl) (fun l hl ih => ?_) l
  rw [chunks_cons hl hk, List.flatten_cons, ih, List.take_append_drop]
theorem chunks_good {l : List EnP} (h : allR l = true) : Good (chunks 4 l) := by
  revert h
  refine chunks_ind (k := 4) (by omega) (M := fun l => allR l = true → Good (chunks 4 l)) (fun _ => by rw [chunks_nil]; exact Good.nil) (fun l hl ih h => ?_) l
  rw [chunks_cons hl (by omega)]
  intro c hc
  rcases List.mem_cons.1 hc with rfl | hc
  · refine ⟨?_, List.length_take_le .., allR_take h 4⟩
    have : 0 < l.length := List.length_pos_iff.2 hl
    rw [List.length_take]; omega
  · exact ih (allR_drop h 4) c hc
/-- The first j of them are those of so many. -/
theorem chunks_take {α : Type} {k : Nat} (hk : k ≠ 0) (l : List α) : ∀ j, j ≤ (chunks k l).length → ((chunks k l).take j).flatten = l.take (j * k) ∧ chunks k (l.take (j * k)) = (chunks k l).take j := by
  refine chunks_ind hk (M := fun l => ∀ j, j ≤ (chunks k l).length → ((chunks k l).take j).flatten = l.take (j * k) ∧ chunks k (l.take (j * k)) = (chunks k l).take j) (fun j _ => by simp [chunks_nil]) (fun l hl ih j hj => ?_) l
  cases j with
  | zero => simp [chunks_nil]
  | succ j =>
    rw [chunks_cons hl hk] at hj ⊢
    obtain ⟨h1, h2⟩ := ih j (by simpa using hj)
    have e1 : l.take ((j + 1) * k) = l.take k ++ (l.drop k).take (j * k) := by
      rw [Nat.succ_mul, Nat.add_comm (j * k) k, List.take_add]
    have hne : l.take ((j + 1) * k) ≠ [] := by
      intro e
      have := congrArg List.length e
      have h0 : 0 < l.length := List.length_pos_iff.2 hl
      have h3 : 0 < (j + 1) * k := Nat.mul_pos (by omega) (by omega)
      rw [List.length_take, List.length_nil] at this
      omega
    refine ⟨by rw [List.take_succ_cons, List.flatten_cons, h1, e1], ?_⟩
    rw [chunks_cons hne hk, List.take_succ_cons]
    have e2 : (l.take ((j + 1) * k)).take k = l.take k := by rw [List.take_take, Nat.min_eq_left (by rw [Nat.succ_mul]; omega)]
    have e3 : (l.take ((j + 1) * k)).drop k = (l.drop k).take (j * k) := by
      rw [List.drop_take, Nat.succ_mul, Nat.add_sub_cancel]
    rw [e2, e3, h2]
theorem chunks_count {α : Type} {k : Nat} (hk : k ≠ 0) (l : List α) : ∀ j, j ≤ (chunks k l).length → j * k ≤ l.length ∨ j = (chunks k l).length := by
  refine chunks_ind hk (M := fun l => ∀ j, j ≤ (chunks k l).length → j * k ≤ l.length ∨ j = (chunks k l).length) (fun j hj => by rw [chunks_nil] at hj ⊢; simp at hj; subst hj; exact .inr rfl) (fun l hl ih j hj => ?_) l
  cases j with
  | zero => exact .inl (by simp)
  | succ j =>
    rw [chunks_cons hl hk] at hj ⊢
    rcases ih j (by simpa using hj) with h | h
    · by_cases hkl : k ≤ l.length
      · rw [List.length_drop] at h
        have e1 : (j + 1) * k = j * k + k := Nat.succ_mul j k
        left
        omega
      · right
        have h0 : l.drop k = [] := List.drop_of_length_le (by omega)
        rw [h0, chunks_nil] at hj ⊢
        simp at hj ⊢
        exact hj
    · right; rw [List.length_cons, h]
end Go.Proofs.YtcpdjhkpmaamdaaGreat
