/-
  slices.stableCmpFunc, SortStableFunc at idents, by their order, of at most 40: their contracts.
-/
import Derived.Test.YtbfdjjkphmchgaaDoorSymG
import Derived.Test.YtbfdjjkphmchgaaDoorIns
namespace Go.Proofs.YtbfdjjkphmchgaaDoor
open Go.RowKit Go.Sort
set_option linter.unusedVariables false
set_option linter.unusedSimpArgs false

/-- How far the first loop is: how many blocks of 20 stand in order. -/
def Blocks (l : List IdP) (d : Array IdP) (k : Nat) : Prop :=
  (k = 0 ∧ d.toList = l) ∨ (k = 20 ∧ ∃ C, d.toList = C ++ l.drop 20 ∧ Sym.Ord LEo C ∧ C.Perm (l.take 20)) ∨
    (k = 40 ∧ ∃ C D, d.toList = C ++ D ∧ C.length = 20 ∧ D.length = 20 ∧ Sym.Ord LEo C ∧ Sym.Ord LEo D ∧ (C ++ D).Perm l)
/-- Behind the blocks: two stretches in order, the first of 20 (or the only one). -/
def Two (l : List IdP) (n : Nat) (d : Array IdP) : Prop := ∃ C D, d.toList = C ++ D ∧ Sym.Ord LEo C ∧ Sym.Ord LEo D ∧ (C ++ D).Perm l ∧ (D = [] ∨ C.length = 20) ∧ C.length + D.length = n ∧ (D = [] → n ≤ 20)
def Whole (l : List IdP) (d : Array IdP) : Prop := Sym.Ord LEo d.toList ∧ d.toList.Perm l

theorem Blocks.next {l : List IdP} {n k : Nat} {d : Array IdP} (h : Blocks l d k) (hl : l.length = n) (hn : n ≤ 40) (hk : k + 20 ≤ n) :
    ∃ X L Y, d.toList = X ++ (L ++ Y) ∧ X.length = k ∧ k + L.length = k + 20 ∧ ∀ (d' : Array IdP) (C : List IdP), d'.toList = X ++ (C ++ Y) → Sym.Ord LEo C → C.Perm L → Blocks l d' (k + 20) := by
  rcases h with ⟨rfl, hd⟩ | ⟨rfl, C, hd, hC, hp⟩ | ⟨rfl, _⟩
  · exact ⟨[], l.take 20, l.drop 20, by rw [hd]; simp, rfl, by rw [List.length_take]; omega, fun d' C h1 h2 h3 => .inr (.inl ⟨rfl, C, by rw [h1]; rfl, h2, h3⟩)⟩
  · have hCl : C.length = 20 := by rw [hp.length_eq, List.length_take]; omega
    exact ⟨C, l.drop 20, [], by rw [hd]; simp, hCl, by rw [List.length_drop]; omega, fun d' D h1 h2 h3 => .inr (.inr ⟨rfl, C, D, by rw [h1]; simp, hCl, by rw [h3.length_eq, List.length_drop]; omega, hC, h2, by
      have h4 := hp.append h3
      rwa [List.take_append_drop] at h4⟩)⟩
  · omega
theorem Blocks.last {l : List IdP} {n k : Nat} {d : Array IdP} (h : Blocks l d k) (hl : l.length = n) (hn : n ≤ 40) (hk : k ≤ n) (hk2 : ¬ k + 20 ≤ n) :
    ∃ X L, d.toList = X ++ (L ++ []) ∧ X.length = k ∧ k + L.length = n ∧ ∀ (d' : Array IdP) (C : List IdP), d'.toList = X ++ (C ++ []) → Sym.Ord LEo C → C.Perm L → Two l n d' := by
  rcases h with ⟨rfl, hd⟩ | ⟨rfl, C, hd, hC, hp⟩ | ⟨rfl, C, D, hd, hCl, hDl, hC, hD, hp⟩
  · exact ⟨[], l, by rw [hd]; simp, rfl, by omega, fun d' C h1 h2 h3 => ⟨C, [], by rw [h1]; simp, h2, Sym.Ord.nil, by simpa using h3, .inl rfl, by rw [h3.length_eq]; simp; omega, fun _ => by omega⟩⟩
  · have hCl : C.length = 20 := by rw [hp.length_eq, List.length_take]; omega
    refine ⟨C, l.drop 20, by rw [hd]; simp, hCl, by rw [List.length_drop]; omega, fun d' D h1 h2 h3 => ⟨C, D, by rw [h1]; simp, hC, h2, ?_, .inr hCl, by rw [h3.length_eq, List.length_drop]; omega, fun h4 => ?_⟩⟩
    · have h4 := hp.append h3
      rwa [List.take_append_drop] at h4
    · have h5 := h3.length_eq
      rw [h4, List.length_drop] at h5
      simp at h5
      omega
  · refine ⟨C ++ D, [], by rw [hd]; simp, by rw [List.length_append]; omega, by simp; rw [← hl, ← hp.length_eq, List.length_append]; omega, fun d' E h1 h2 h3 => ?_⟩
    have hE : E = [] := List.length_eq_zero_iff.1 h3.length_eq
    subst hE
    exact ⟨C, D, by rw [h1]; simp, hC, hD, hp, .inr hCl, by rw [← hl, ← hp.length_eq, List.length_append], fun h4 => by rw [h4] at hDl; simp at hDl⟩
theorem Two.whole {l : List IdP} {n : Nat} {d : Array IdP} (h : Two l n d) (hn : ¬ 20 < n) : Whole l d := by
  obtain ⟨C, D, hd, hC, hD, hp, h1, h2, h3⟩ := h
  have hD0 : D = [] := by
    rcases h1 with h1 | h1
    · exact h1
    · exact List.length_eq_zero_iff.1 (by omega)
  subst hD0
  rw [List.append_nil] at hd hp
  exact ⟨by rw [hd]; exact hC, by rw [hd]; exact hp⟩
theorem Two.merge {l : List IdP} {n : Nat} {d : Array IdP} (h : Two l n d) (hn : 20 < n) : ∃ A B, d.toList = [] ++ (A ++ (B ++ [])) ∧ 0 + A.length = 20 ∧ 20 + B.length = n ∧ 0 < A.length ∧ 0 < B.length ∧ Sym.Ord LEo A ∧ Sym.Ord LEo B ∧ ∀ (d' : Array IdP) (C : List IdP), d'.toList = [] ++ (C ++ []) → Sym.Ord LEo C → C.Perm (A ++ B) → Whole l d' := by
  obtain ⟨C, D, hd, hC, hD, hp, h1, h2, h3⟩ := h
  have hD0 : D ≠ [] := fun h0 => by have := h3 h0; omega
  have hCl : C.length = 20 := h1.resolve_left hD0
  exact ⟨C, D, by rw [hd]; simp, by omega, by omega, by omega, List.length_pos_iff.2 hD0, hC, hD, fun d' E e1 e2 e3 => by
    simp only [List.nil_append, List.append_nil] at e1
    exact ⟨by rw [e1]; exact e2, by rw [e1]; exact e3.trans hp⟩⟩

set_option maxRecDepth 100000 in
set_option maxHeartbeats 8000000 in
theorem stable_any (base g n c : Nat) (d : Array IdP) (w : World) (hs : Srt w base g n c d) (hn : n ≤ 40) :
    Calls Tryd.prog 38 #[.slice (some ⟨g, 0, none⟩) n c, .int .i64 (n : Int), .func (.func 28) #[] #[]] w fun e w' => e = .returned (.tuple #[]) ∧ (∃ d', Srt w' base g n c d' ∧ Whole d.toList d') ∧ Below base w w' := by
  have hdl : d.toList.length = n := by rw [Array.length_toList, hs.1]
  have HD := Lib.hid (⟨hs, hdl⟩ : _ ∧ _)
  clear hs hdl
  go_enter Tryd.func38, Tryd.ntmps38
  go_wp2_with fail
  go_loopw [7, 8] (fun av bv wr => ∃ (k : Nat) (dk : Array IdP), av = .int .i64 (k : Int) ∧ bv = .int .i64 ((k + 20 : Nat) : Int) ∧ k ≤ n ∧ Srt wr base g n c dk ∧ Blocks d.toList dk k ∧ Below base w wr) (fun av _ _ => 100 - (intOf av).toNat)
  case atStart => exact ⟨0, d, rfl, rfl, Nat.zero_le _, HD.out.1, .inl ⟨rfl, rfl⟩, Below.refl _ _⟩
  obtain ⟨k, dk, rfl, rfl, hk, hsk, hbk, hB⟩ := hrel
  obtain ⟨k2, hk2⟩ : ∃ q, q = k + 20 := ⟨_, rfl⟩
  rw [← hk2]
  by_cases hle : k2 ≤ n
  · obtain ⟨X, L, Y, h1, h2, h3, h4⟩ := hbk.next HD.out.2 hn (by omega)
    have hins := insertion_any base g n c dk k k2 wr X L Y hsk (by omega) h1 h2 (by omega)
    have hle1 : decide ((k2 : Int) ≤ (n : Int)) = true := by simp; omega
    obtain ⟨k3, hk3⟩ : ∃ q, q = k2 + 20 := ⟨_, rfl⟩
    have hw1 : IntKind.i64.wrap ((k2 : Int) + 20) = (k3 : Int) := by rw [IntKind.wrap_i64] <;> omega
    have HI := Lib.hid (⟨hB, hk2, h4, hk3⟩ : _ ∧ _ ∧ _ ∧ _)
    have hkk : k2 ≤ 40 ∧ k < k2 := by omega
    clear hsk hbk hB h1 h2 h3 h4 hk2 hk3
    go_wp2_with fail
    refine hins.mono ?_
    rintro e w2 ⟨rfl, ⟨d2, hs2, C2, hd2, ho2, hp2⟩, hb2⟩
    have H2 := Lib.hid (⟨hs2, HI.out.2.2.1 d2 C2 hd2 ho2 hp2, HI.out.1.trans hb2⟩ : _ ∧ _ ∧ _)
    clear hs2 hd2 ho2 hp2 hb2 hins
    go_wp2_with fail
    go_roundw
    case rel => exact ⟨k2, d2, rfl, by rw [← HI.out.2.2.2], hle, H2.out.1, by rw [HI.out.2.1]; exact H2.out.2.1, H2.out.2.2⟩
    case measure => simp [intOf]; omega
  · obtain ⟨X, L, h1, h2, h3, h4⟩ := hbk.last HD.out.2 hn hk (by omega)
    have hins := insertion_any base g n c dk k n wr X L [] hsk (by omega) h1 h2 h3
    have hle1 : decide ((k2 : Int) ≤ (n : Int)) = false := by simp; omega
    have HI := Lib.hid (⟨hB, h4⟩ : _ ∧ _)
    clear hsk hbk hB h1 h2 h3 h4 hk2
    go_wp2_with fail
    refine hins.mono ?_
    rintro e w2 ⟨rfl, ⟨d2, hs2, C2, hd2, ho2, hp2⟩, hb2⟩
    have H2 := Lib.hid (⟨hs2, HI.out.2 d2 C2 hd2 ho2 hp2, HI.out.1.trans hb2⟩ : _ ∧ _ ∧ _)
    clear hs2 hd2 ho2 hp2 hb2 hins hle hle1
    go_wp2_with fail
    go_loopw [6] (fun sv wr => ∃ dk, Srt wr base g n c dk ∧ Below base w wr ∧ ((sv = .int .i64 20 ∧ Two d.toList n dk) ∨ (sv = .int .i64 40 ∧ Whole d.toList dk))) (fun sv _ => 100 - (intOf sv).toNat)
    case atStart => exact ⟨d2, H2.out.1, H2.out.2.2, .inl ⟨rfl, H2.out.2.1⟩⟩
    obtain ⟨d3, hs3, hB3, ⟨rfl, hT⟩ | ⟨rfl, hW⟩⟩ := hrel
    · by_cases h20 : 20 < n
      · have h20a : decide ((20 : Int) < (n : Int)) = true := by simp; omega
        have H3 := Lib.hid (⟨hs3, hB3, hT⟩ : _ ∧ _ ∧ _)
        clear hs3 hB3 hT
        go_wp2_with fail
        go_loopw [7, 8] (fun av bv wi => ∃ dk, Srt wi base g n c dk ∧ Below base w wi ∧ ((av = .int .i64 0 ∧ bv = .int .i64 40 ∧ Two d.toList n dk) ∨ (av = .int .i64 40 ∧ bv = .int .i64 80 ∧ n = 40 ∧ Whole d.toList dk))) (fun av _ _ => 100 - (intOf av).toNat)
        case atStart => exact ⟨d3, H3.out.1, H3.out.2.1, .inl ⟨rfl, rfl, H3.out.2.2⟩⟩
        obtain ⟨d4, hs4, hB4, ⟨rfl, rfl, hT⟩ | ⟨rfl, rfl, hn40, hW⟩⟩ := hrel
        · obtain ⟨A, B, m1, m2, m3, m4, m5, m6, m7, m8⟩ := hT.merge h20
          have hsy := sym_any base g n c (by omega) n d4 0 20 n wr [] A B [] (by omega) hs4 m1 rfl m2 m3 m4 m5 m6 m7
          have HM8 := Lib.hid (⟨hB4, m8⟩ : _ ∧ _)
          clear hs4 hB4 hT m1 m2 m3 m4 m5 m6 m7 m8
          by_cases h40 : 40 ≤ n
          · have Hn40 := Lib.hid (show n = 40 by omega)
            have h40a : decide ((40 : Int) ≤ (n : Int)) = true := by simp; omega
            have hsy2 : Calls Tryd.prog 43 #[.slice (some ⟨g, 0, none⟩) n c, .int .i64 (0 : Int), .int .i64 (20 : Int), .int .i64 (40 : Int), .func (.func 28) #[] #[]] wr (Merged base g n c wr [] A B []) := by
              have h := hsy
              rw [show ((n : Nat) : Int) = 40 by have := Hn40.out; omega] at h
              exact h
            clear hsy
            have hsy := hsy2
            clear hsy2
            go_wp2_with fail
            refine hsy.mono ?_
            rintro e w5 ⟨rfl, ⟨d5, hs5, C5, hd5, ho5, hp5⟩, hb5⟩
            have H5 := Lib.hid (⟨hs5, HM8.out.1.trans hb5, HM8.out.2 d5 C5 hd5 ho5 hp5⟩ : _ ∧ _ ∧ _)
            clear hs5 hd5 ho5 hp5 hb5 hsy
            go_wp2_with fail
            go_roundw
            case rel => exact ⟨d5, H5.out.1, H5.out.2.1, .inr ⟨rfl, rfl, Hn40.out, H5.out.2.2⟩⟩
            case measure => simp [intOf]
          · have h40a : decide ((40 : Int) ≤ (n : Int)) = false := by simp; omega
            have h40b : ¬ ((40 : Int) ≤ (n : Int)) := by omega
            go_wp2_with fail
            refine hsy.mono ?_
            rintro e w5 ⟨rfl, ⟨d5, hs5, C5, hd5, ho5, hp5⟩, hb5⟩
            have H5 := Lib.hid (⟨hs5, HM8.out.1.trans hb5, HM8.out.2 d5 C5 hd5 ho5 hp5⟩ : _ ∧ _ ∧ _)
            clear hs5 hd5 ho5 hp5 hb5 hsy
            go_wp2_with fail
            go_roundw
            case rel => exact ⟨d5, H5.out.1, H5.out.2.1, .inr ⟨rfl, H5.out.2.2⟩⟩
            case measure => simp [intOf]
        · have H5 := Lib.hid (⟨hs4, hB4, hW⟩ : _ ∧ _ ∧ _)
          have h80a : decide ((80 : Int) ≤ (n : Int)) = false := by simp; omega
          have h80b : ¬ ((80 : Int) ≤ (n : Int)) := by omega
          have h60a : decide ((60 : Int) < (n : Int)) = false := by simp; omega
          have h60b : ¬ ((60 : Int) < (n : Int)) := by omega
          clear hs4 hB4 hW hn40
          go_wp2_with fail
          go_roundw
          case rel => exact ⟨d4, H5.out.1, H5.out.2.1, .inr ⟨rfl, H5.out.2.2⟩⟩
          case measure => simp [intOf]
      · have h20a : decide ((20 : Int) < (n : Int)) = false := by simp; omega
        have h20b : ¬ ((20 : Int) < (n : Int)) := by omega
        have H3 := Lib.hid (⟨hs3, hB3, hT.whole h20⟩ : _ ∧ _ ∧ _)
        clear hs3 hB3 hT
        go_wp2_with fail
        go_end0
        exact ⟨rfl, ⟨d3, H3.out.1, H3.out.2.2⟩, H3.out.2.1⟩
    · have h40a : decide ((40 : Int) < (n : Int)) = false := by simp; omega
      have h40b : ¬ ((40 : Int) < (n : Int)) := by omega
      have H3 := Lib.hid (⟨hs3, hB3, hW⟩ : _ ∧ _ ∧ _)
      clear hs3 hB3 hW
      go_wp2_with fail
      go_end0
      exact ⟨rfl, ⟨d3, H3.out.1, H3.out.2.2⟩, H3.out.2.1⟩

set_option maxRecDepth 100000 in
set_option maxHeartbeats 1000000 in
theorem sortStable_any (base g n c : Nat) (d : Array IdP) (w : World) (hs : Srt w base g n c d) (hn : n ≤ 40) :
    Calls Tryd.prog 31 #[.slice (some ⟨g, 0, none⟩) n c, .func (.func 28) #[] #[]] w fun e w' => e = .returned (.tuple #[]) ∧ (∃ d', Srt w' base g n c d' ∧ Whole d.toList d') ∧ Below base w w' := by
  have hst := stable_any base g n c d w hs hn
  clear hs
  go_enter Tryd.func31, Tryd.ntmps31
  go_wp2_with fail
  refine hst.mono ?_
  rintro e w2 ⟨rfl, h2, hb2⟩
  have H2 := Lib.hid (⟨h2, hb2⟩ : _ ∧ _)
  clear h2 hb2 hst
  go_wp2_with fail
  go_end0
  exact ⟨rfl, H2.out.1, H2.out.2⟩

end Go.Proofs.YtbfdjjkphmchgaaDoor
