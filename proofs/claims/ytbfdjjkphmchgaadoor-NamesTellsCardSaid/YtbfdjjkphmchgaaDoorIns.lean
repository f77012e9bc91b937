/-
  slices.insertionSortCmpFunc at idents, by their order: its contract.
-/
import Derived.Test.YtbfdjjkphmchgaaDoorSym
namespace Go.Proofs.YtbfdjjkphmchgaaDoor
open Go.RowKit Go.Sort
set_option linter.unusedVariables false
set_option linter.unusedSimpArgs false

/-- What is asked of a sort of a stretch. -/
def Sorted (base g n c : Nat) (w : World) (X L Y : List IdP) (e : Ending) (w' : World) : Prop :=
  e = .returned (.tuple #[]) ∧ (∃ d', Srt w' base g n c d' ∧ ∃ C, d'.toList = X ++ (C ++ Y) ∧ Sym.Ord LEo C ∧ C.Perm L) ∧ Below base w w'
theorem ord_short {L : List IdP} (h : L.length ≤ 1) : Sym.Ord LEo L := by
  match L, h with
  | [], _ => exact Sym.Ord.nil
  | [x], _ => exact Sym.Ord.one x
  | _ :: _ :: _, h => simp at h
theorem carried_get {x : IdP} {C : List IdP} {k : Nat} (hk : k ≤ C.length) : (Sym.carried x C k)[k]? = some x := by
  rw [Sym.carried, List.getElem?_append_right (by rw [List.length_take]; omega), List.length_take, show k - min k C.length = 0 by omega]; rfl
theorem carried_prev {x y : IdP} {C : List IdP} {k : Nat} (h : C[k]? = some y) : (Sym.carried x C (k + 1))[k]? = some y := by
  have hk := (List.getElem?_eq_some_iff.1 h).1
  rw [Sym.carried, List.getElem?_append_left (by rw [List.length_take]; omega), List.getElem?_take_of_lt (by omega), h]
theorem carried_len {x : IdP} {C : List IdP} {k : Nat} (hk : k ≤ C.length) : (Sym.carried x C k).length = C.length + 1 := by
  simp only [Sym.carried, List.length_append, List.length_take, List.length_cons, List.length_drop]; omega

set_option maxRecDepth 100000 in
set_option maxHeartbeats 8000000 in
theorem insertion_any (base g n c : Nat) (d : Array IdP) (a b : Nat) (w : World) (X L Y : List IdP) (hs : Srt w base g n c d) (hn : n ≤ 1000) (hd : d.toList = X ++ (L ++ Y)) (ha : X.length = a) (hb : a + L.length = b) :
    Calls Tryd.prog 42 #[.slice (some ⟨g, 0, none⟩) n c, .int .i64 (a : Int), .int .i64 (b : Int), .func (.func 28) #[] #[]] w (Sorted base g n c w X L Y) := by
  have hbn : b ≤ n := by
    have h1 := congrArg List.length hd
    rw [Array.length_toList, hs.1] at h1
    simp only [List.length_append] at h1
    omega
  obtain ⟨a1, ha1⟩ : ∃ k, k = a + 1 := ⟨_, rfl⟩
  have hw1 : IntKind.i64.wrap ((a : Int) + 1) = (a1 : Int) := by rw [IntKind.wrap_i64] <;> omega
  have hg := hs.lt
  by_cases hsh : L.length ≤ 1
  · have t1 : decide ((a1 : Int) < (b : Int)) = false := by simp; omega
    have t2 : ¬ ((a1 : Int) < (b : Int)) := by omega
    have HD := Lib.hid (⟨hs, hd⟩ : _ ∧ _)
    have HO := Lib.hid (ord_short hsh)
    clear hs hd ha hb hbn ha1 hsh
    go_enter Tryd.func42, Tryd.ntmps42
    go_wp2_with fail
    go_loopw [8] (fun iv wr => iv = .int .i64 (a1 : Int) ∧ wr = w) (fun _ _ => 0)
    case atStart => exact ⟨rfl, rfl⟩
    obtain ⟨rfl, rfl⟩ := hrel
    go_wp2_with fail
    go_end0
    exact ⟨rfl, ⟨d, HD.out.1, L, HD.out.2, HO.out, List.Perm.refl _⟩, Below.refl _ _⟩
  have HD := Lib.hid (⟨hs, hd, ha, hb, ha1, hbn, hsh⟩ : _ ∧ _ ∧ _ ∧ _ ∧ _ ∧ _ ∧ _)
  have hb9 : b ≤ 1000 ∧ a ≤ b ∧ b ≤ n := by omega
  clear hs hd ha hb hbn ha1 hsh
  go_enter Tryd.func42, Tryd.ntmps42
  go_wp2_with fail
  clear hw1
  go_loopw [8] (fun iv wr => ∃ (i : Nat) (dk : Array IdP) (C R : List IdP), iv = .int .i64 (i : Int) ∧ a < i ∧ i ≤ b ∧ Srt wr base g n c dk ∧ dk.toList = X ++ (C ++ (R ++ Y)) ∧ a + C.length = i ∧ i + R.length = b ∧ Sym.Ord LEo C ∧ (C ++ R).Perm L ∧ Below base w wr) (fun iv _ => b - (intOf iv).toNat)
  case atStart =>
    obtain ⟨hs, hd, ha, hb, ha1, hbn, hsh⟩ := HD.out
    obtain ⟨x, R, rfl⟩ : ∃ x R, L = x :: R := by
      cases L with
      | nil => simp at hsh
      | cons x R => exact ⟨x, R, rfl⟩
    exact ⟨a1, d, [x], R, rfl, by omega, by simp only [List.length_cons] at hb hsh; omega, hs, by rw [hd]; rfl, by simp only [List.length_cons, List.length_nil]; omega, by simp only [List.length_cons] at hb; omega, Sym.Ord.one x, List.Perm.refl _, Below.refl _ _⟩
  obtain ⟨i, dk, C, R, rfl, hai, hib, hsk, hdk, hC, hR, ho, hp, hB⟩ := hrel
  by_cases hlt : i < b
  · obtain ⟨z, R', rfl⟩ : ∃ z R', R = z :: R' := by
      cases R with
      | nil => simp at hR; omega
      | cons z R' => exact ⟨z, R', rfl⟩
    have HI := Lib.hid (⟨hC, hR, ho, hp⟩ : _ ∧ _ ∧ _ ∧ _)
    have H0 := Lib.hid (⟨hsk, (show dk.toList = X ++ (Sym.carried z C C.length ++ (R' ++ Y)) by rw [hdk]; simp [Sym.carried]), hB⟩ : _ ∧ _ ∧ _)
    clear hsk hdk hB hC hR ho hp
    go_wp2_with fail
    go_loopw [9] (fun jv wj => ∃ (j k : Nat) (dj : Array IdP), jv = .int .i64 (j : Int) ∧ j = a + k ∧ k ≤ C.length ∧ Srt wj base g n c dj ∧ dj.toList = X ++ (Sym.carried z C k ++ (R' ++ Y)) ∧ (k = C.length ∨ ∃ y, C[k]? = some y ∧ LessP z y) ∧ Below base w wj) (fun jv _ => (intOf jv).toNat)
    case atStart => exact ⟨i, C.length, dk, rfl, HI.out.1.symm, Nat.le_refl _, H0.out.1, H0.out.2.1, .inl rfl, H0.out.2.2⟩
    obtain ⟨j, k, dj, rfl, hj, hk, hsj, hdj, hnb, hBj⟩ := hrel
    have hnext : (k = 0 ∨ ∃ y, C[k - 1]? = some y ∧ ¬ LessP z y) → ∃ (i' : Nat) (dk : Array IdP) (C' R : List IdP), i' = i + 1 ∧ a < i' ∧ i' ≤ b ∧ dj = dk ∧ dk.toList = X ++ (C' ++ (R ++ Y)) ∧ a + C'.length = i' ∧ i' + R.length = b ∧ Sym.Ord LEo C' ∧ (C' ++ R).Perm L := fun hst => by
      obtain ⟨hC, hR, ho, hp⟩ := HI.out
      have hBo : Sym.Ord LEo (C.take k ++ C.drop k) := by rw [List.take_append_drop]; exact ho
      have hone := Sym.one_right (y := z) hBo
        (Sym.all_left LEo.trans (Sym.Ord.append.1 hBo).1 (fun B' y e => by
          have hl2 := congrArg List.length e
          rw [List.length_take, List.length_append, List.length_singleton] at hl2
          have hz : C[k - 1]? = some y := by
            have h1 : (C.take k)[k - 1]? = some y := by rw [e, List.getElem?_append_right (by omega), show k - 1 - B'.length = 0 by omega]; rfl
            rwa [List.getElem?_take_of_lt (by omega)] at h1
          rcases hst with h0 | ⟨y', h0, h1⟩
          · omega
          · rw [hz] at h0
            cases h0
            exact h1))
        (Sym.all_right LEo.trans (Sym.Ord.append.1 hBo).2.1 (fun y B' e => by
          have hz : C[k]? = some y := by
            have h1 : (C.drop k)[0]? = some y := by rw [e]; rfl
            rwa [List.getElem?_drop] at h1
          rcases hnb with h0 | ⟨y', h0, h1⟩
          · have := (List.getElem?_eq_some_iff.1 hz).1
            omega
          · rw [hz] at h0
            cases h0
            exact LEo.of_less h1))
      rw [List.take_append_drop] at hone
      rw [List.length_cons] at hR
      refine ⟨i + 1, dj, Sym.carried z C k, R', rfl, by omega, by omega, rfl, hdj, by rw [carried_len hk]; omega, by omega, hone.1, ?_⟩
      have h2 := (hone.2.append_right R').trans (by rw [List.append_assoc]; first | done | exact List.Perm.refl (C ++ z :: R'))
      exact h2.trans hp
    have HNX := Lib.hid hnext
    clear hnext
    by_cases hk0 : k = 0
    · have ta : decide ((a : Int) < (j : Int)) = false := by simp; omega
      have ta' : ¬ ((a : Int) < (j : Int)) := by omega
      have tn : ¬ (a < j) := by omega
      have tn' : decide (a < j) = false := by simp; omega
      have HS := Lib.hid (⟨hsj, hBj, HNX.out (.inl hk0)⟩ : _ ∧ _ ∧ _)
      clear hsj hdj hnb hBj hj hk hk0 HNX
      go_wp2_with fail
      refine wp_region_held_drew (S := (fun W => Below wr.heap.size wr W)) (by kernel_rfl) (below_dr (below_d0 _)) (fun hHeld => ?_)
      refine take_at (i := 0) (d := 18) (oi := ?o1) (v := ?v1) ?hi1 ?hd1 (by kernel_rfl) (by kernel_rfl) (by kernel_rfl) ?hw1 ?hy1 ?hq1 (by assumption) ?r1
      case hi1 => (simp only [List.getElem?_toArray, List.getElem?_cons_zero]; rfl)
      case hd1 => rfl
      case hw1 => rfl
      case hy1 => ((intro w hSw; (try dsimp only at hSw); go_simp) <;> (with_reducible rfl))
      case hq1 => exact fun _ _ _ h => h
      simp only [List.set_cons_succ, List.set_cons_zero]
      refine take_at (i := 1) (d := 19) (oi := ?o2) (v := ?v2) ?hi2 ?hd2 (by kernel_rfl) (by kernel_rfl) (by kernel_rfl) ?hw2 ?hy2 ?hq2 (by assumption) ?r2
      case hi2 => (simp only [List.getElem?_toArray, List.getElem?_cons_succ, List.getElem?_cons_zero]; rfl)
      case hd2 => rfl
      case hw2 => rfl
      case hy2 => ((intro w hSw; (try dsimp only at hSw); go_simp) <;> (with_reducible rfl))
      case hq2 => exact fun _ _ _ h => h
      simp only [List.set_cons_succ, List.set_cons_zero]
      refine take_at (i := 2) (d := 20) (oi := ?o3) (v := ?v3) ?hi3 ?hd3 (by kernel_rfl) (by kernel_rfl) (by kernel_rfl) ?hw3 ?hy3 ?hq3 (by assumption) ?r3
      case hi3 => (simp only [List.getElem?_toArray, List.getElem?_cons_succ, List.getElem?_cons_zero]; rfl)
      case hd3 => rfl
      case hw3 => rfl
      case hy3 => ((intro w hSw; (try dsimp only at hSw); go_simp) <;> (with_reducible rfl))
      case hq3 => exact fun _ _ _ h => h
      simp only [List.set_cons_succ, List.set_cons_zero]
      refine take_at (i := 3) (d := 21) (oi := ?o4) (v := ?v4) ?hi4 ?hd4 (by kernel_rfl) (by kernel_rfl) (by kernel_rfl) ?hw4 ?hy4 ?hq4 (by assumption) ?r4
      case hi4 => (simp only [List.getElem?_toArray, List.getElem?_cons_succ, List.getElem?_cons_zero]; rfl)
      case hd4 => rfl
      case hw4 => rfl
      case hy4 => ((intro w hSw; (try dsimp only at hSw); go_simp) <;> (with_reducible rfl))
      case hq4 => exact fun _ _ _ h => h
      simp only [List.set_cons_succ, List.set_cons_zero]
      refine skip_at (i := 4) (d := 22) (oi := ?o5) ?hi5 ?hd5 (by kernel_rfl) (by kernel_rfl) (by kernel_rfl) ?hw5 ?hq5 (by assumption) ?r5
      case hi5 => (simp only [List.getElem?_toArray, List.getElem?_cons_succ, List.getElem?_cons_zero]; rfl)
      case hd5 => rfl
      case hw5 => rfl
      case hq5 => exact fun _ _ _ h => h
      simp only [List.set_cons_succ, List.set_cons_zero]
      refine skip_at (i := 5) (d := 23) (oi := ?o6) ?hi6 ?hd6 (by kernel_rfl) (by kernel_rfl) (by kernel_rfl) ?hw6 ?hq6 (by assumption) ?r6
      case hi6 => (simp only [List.getElem?_toArray, List.getElem?_cons_succ, List.getElem?_cons_zero]; rfl)
      case hd6 => rfl
      case hw6 => rfl
      case hq6 => exact fun _ _ _ h => h
      simp only [List.set_cons_succ, List.set_cons_zero]
      refine skip_at (i := 6) (d := 24) (oi := ?o7) ?hi7 ?hd7 (by kernel_rfl) (by kernel_rfl) (by kernel_rfl) ?hw7 ?hq7 (by assumption) ?r7
      case hi7 => (simp only [List.getElem?_toArray, List.getElem?_cons_succ, List.getElem?_cons_zero]; rfl)
      case hd7 => rfl
      case hw7 => rfl
      case hq7 => exact fun _ _ _ h => h
      simp only [List.set_cons_succ, List.set_cons_zero]
      refine skip_at (i := 7) (d := 25) (oi := ?o8) ?hi8 ?hd8 (by kernel_rfl) (by kernel_rfl) (by kernel_rfl) ?hw8 ?hq8 (by assumption) ?r8
      case hi8 => (simp only [List.getElem?_toArray, List.getElem?_cons_succ, List.getElem?_cons_zero]; rfl)
      case hd8 => rfl
      case hw8 => rfl
      case hq8 => exact fun _ _ _ h => h
      simp only [List.set_cons_succ, List.set_cons_zero]
      refine skip_at (i := 8) (d := 26) (oi := ?o9) ?hi9 ?hd9 (by kernel_rfl) (by kernel_rfl) (by kernel_rfl) ?hw9 ?hq9 (by assumption) ?r9
      case hi9 => (simp only [List.getElem?_toArray, List.getElem?_cons_succ, List.getElem?_cons_zero]; rfl)
      case hd9 => rfl
      case hw9 => rfl
      case hq9 => exact fun _ _ _ h => h
      simp only [List.set_cons_succ, List.set_cons_zero]
      refine skip_at (i := 9) (d := 27) (oi := ?o10) ?hi10 ?hd10 (by kernel_rfl) (by kernel_rfl) (by kernel_rfl) ?hw10 ?hq10 (by assumption) ?r10
      case hi10 => (simp only [List.getElem?_toArray, List.getElem?_cons_succ, List.getElem?_cons_zero]; rfl)
      case hd10 => rfl
      case hw10 => rfl
      case hq10 => exact fun _ _ _ h => h
      simp only [List.set_cons_succ, List.set_cons_zero]
      refine skip_at (i := 10) (d := 28) (oi := ?o11) ?hi11 ?hd11 (by kernel_rfl) (by kernel_rfl) (by kernel_rfl) ?hw11 ?hq11 (by assumption) ?r11
      case hi11 => (simp only [List.getElem?_toArray, List.getElem?_cons_succ, List.getElem?_cons_zero]; rfl)
      case hd11 => rfl
      case hw11 => rfl
      case hq11 => exact fun _ _ _ h => h
      simp only [List.set_cons_succ, List.set_cons_zero]
      refine skip_at (i := 11) (d := 29) (oi := ?o12) ?hi12 ?hd12 (by kernel_rfl) (by kernel_rfl) (by kernel_rfl) ?hw12 ?hq12 (by assumption) ?r12
      case hi12 => (simp only [List.getElem?_toArray, List.getElem?_cons_succ, List.getElem?_cons_zero]; rfl)
      case hd12 => rfl
      case hw12 => rfl
      case hq12 => exact fun _ _ _ h => h
      simp only [List.set_cons_succ, List.set_cons_zero]
      refine skip_at (i := 12) (d := 30) (oi := ?o13) ?hi13 ?hd13 (by kernel_rfl) (by kernel_rfl) (by kernel_rfl) ?hw13 ?hq13 (by assumption) ?r13
      case hi13 => (simp only [List.getElem?_toArray, List.getElem?_cons_succ, List.getElem?_cons_zero]; rfl)
      case hd13 => rfl
      case hw13 => rfl
      case hq13 => exact fun _ _ _ h => h
      simp only [List.set_cons_succ, List.set_cons_zero]
      refine skip_at (i := 13) (d := 31) (oi := ?o14) ?hi14 ?hd14 (by kernel_rfl) (by kernel_rfl) (by kernel_rfl) ?hw14 ?hq14 (by assumption) ?r14
      case hi14 => (simp only [List.getElem?_toArray, List.getElem?_cons_succ, List.getElem?_cons_zero]; rfl)
      case hd14 => rfl
      case hw14 => rfl
      case hq14 => exact fun _ _ _ h => h
      simp only [List.set_cons_succ, List.set_cons_zero]
      refine skip_at (i := 14) (d := 32) (oi := ?o15) ?hi15 ?hd15 (by kernel_rfl) (by kernel_rfl) (by kernel_rfl) ?hw15 ?hq15 (by assumption) ?r15
      case hi15 => (simp only [List.getElem?_toArray, List.getElem?_cons_succ, List.getElem?_cons_zero]; rfl)
      case hd15 => rfl
      case hw15 => rfl
      case hq15 => exact fun _ _ _ h => h
      simp only [List.set_cons_succ, List.set_cons_zero]
      refine skip_at (i := 15) (d := 33) (oi := ?o16) ?hi16 ?hd16 (by kernel_rfl) (by kernel_rfl) (by kernel_rfl) ?hw16 ?hq16 (by assumption) ?r16
      case hi16 => (simp only [List.getElem?_toArray, List.getElem?_cons_succ, List.getElem?_cons_zero]; rfl)
      case hd16 => rfl
      case hw16 => rfl
      case hq16 => exact fun _ _ _ h => h
      simp only [List.set_cons_succ, List.set_cons_zero]
      refine take_at (i := 16) (d := 34) (oi := ?o17) (v := ?v17) ?hi17 ?hd17 (by kernel_rfl) (by kernel_rfl) (by kernel_rfl) ?hw17 ?hy17 ?hq17 (by assumption) ?r17
      case hi17 => (simp only [List.getElem?_toArray, List.getElem?_cons_succ, List.getElem?_cons_zero]; rfl)
      case hd17 => rfl
      case hw17 => rfl
      case hy17 => ((intro w hSw; (try dsimp only at hSw); go_simp) <;> (with_reducible rfl))
      case hq17 => exact fun _ _ _ h => h
      simp only [List.set_cons_succ, List.set_cons_zero]
      refine wpAnyH_done (by kernel_rfl) ?_ _
      have HZ := Lib.hid (⟨HS.out.1.on hHeld, HS.out.2.1.trans (hHeld.mono (Nat.le_of_lt (Nat.lt_of_le_of_lt HS.out.1.lt.1 HS.out.1.lt.2))), HS.out.2.2⟩ : _ ∧ _ ∧ _)
      go_wp2_with fail
      go_roundw
      case rel =>
        obtain ⟨i', dk, C', R2, hi', h1, h2, rfl, h3, h4, h5, h6, h7⟩ := HZ.out.2.2
        exact ⟨i', dj, C', R2, by rw [hi']; go_num, h1, h2, HZ.out.1, h3, h4, h5, h6, h7, HZ.out.2.1⟩
      case measure => simp [intOf]; omega
    obtain ⟨k', rfl⟩ : ∃ k', k = k' + 1 := ⟨k - 1, by omega⟩
    obtain ⟨y, hy⟩ : ∃ y, C[k']? = some y := ⟨_, List.getElem?_eq_getElem (by omega)⟩
    obtain ⟨j1, hj1⟩ : ∃ q, q = a + k' := ⟨_, rfl⟩
    have ta : decide ((a : Int) < (j : Int)) = true := by simp; omega
    have ta' : (a : Int) < (j : Int) := by omega
    have hw2 : IntKind.i64.wrap ((j : Int) - 1) = (j1 : Int) := by have := HI.out.1; rw [IntKind.wrap_i64] <;> omega
    have hn1 : j < n := by have := HI.out.1; omega
    have hn2 : j1 < n := by omega
    have hXl := HD.out.2.2.1
    have hvx : dj[j]! = z := Sym.bang_of (by rw [hdj, hj, ← hXl, Sym.get_mid (by rw [carried_len hk]; omega)]; exact carried_get hk)
    have hvy : dj[j1]! = y := Sym.bang_of (by rw [hdj, hj1, ← hXl, Sym.get_mid (by rw [carried_len hk]; omega)]; exact carried_prev hy)
    have HQ := Lib.hid (⟨hj, hj1, hk⟩ : _ ∧ _ ∧ _)
    have hgl : g < wr.heap.size := hsj.lt.2
    obtain ⟨k0, k1, k2⟩ := hsj.cells hn1
    obtain ⟨m0, m1, m2⟩ := hsj.cells hn2
    rw [hvx] at k0 k1 k2
    rw [hvy] at m0 m1 m2
    have hjj : j1 < j := by omega
    have HS := Lib.hid (⟨hsj, hdj, hBj, hvx, hvy⟩ : _ ∧ _ ∧ _ ∧ _ ∧ _)
    by_cases hless : orderP z y < 0
    · have hLs := (less_iff z y).1 hless
      have tl : decide (orderP z y < 0) = true := decide_eq_true hless
      clear HNX hsj hdj hBj hvx hvy hXl hj hj1 hk hnb
      go_wp2_with fail
      refine wp_region_held_drew (S := (fun W => Below wr.heap.size wr W)) (by kernel_rfl) (below_dr (below_d0 _)) (fun hHeld => ?_)
      refine take_at (i := 0) (d := 18) (oi := ?o18) (v := ?v18) ?hi18 ?hd18 (by kernel_rfl) (by kernel_rfl) (by kernel_rfl) ?hw18 ?hy18 ?hq18 (by assumption) ?r18
      case hi18 => (simp only [List.getElem?_toArray, List.getElem?_cons_zero]; rfl)
      case hd18 => rfl
      case hw18 => rfl
      case hy18 => ((intro w hSw; (try dsimp only at hSw); go_simp) <;> (with_reducible rfl))
      case hq18 => exact fun _ _ _ h => h
      simp only [List.set_cons_succ, List.set_cons_zero]
      refine take_at (i := 1) (d := 19) (oi := ?o19) (v := ?v19) ?hi19 ?hd19 (by kernel_rfl) (by kernel_rfl) (by kernel_rfl) ?hw19 ?hy19 ?hq19 (by assumption) ?r19
      case hi19 => (simp only [List.getElem?_toArray, List.getElem?_cons_succ, List.getElem?_cons_zero]; rfl)
      case hd19 => rfl
      case hw19 => rfl
      case hy19 => ((intro w hSw; (try dsimp only at hSw); go_simp) <;> (with_reducible rfl))
      case hq19 => exact fun _ _ _ h => h
      simp only [List.set_cons_succ, List.set_cons_zero]
      refine take_at (i := 2) (d := 20) (oi := ?o20) (v := ?v20) ?hi20 ?hd20 (by kernel_rfl) (by kernel_rfl) (by kernel_rfl) ?hw20 ?hy20 ?hq20 (by assumption) ?r20
      case hi20 => (simp only [List.getElem?_toArray, List.getElem?_cons_succ, List.getElem?_cons_zero]; rfl)
      case hd20 => rfl
      case hw20 => rfl
      case hy20 => ((intro w hSw; (try dsimp only at hSw); go_simp) <;> (with_reducible rfl))
      case hq20 => exact fun _ _ _ h => h
      simp only [List.set_cons_succ, List.set_cons_zero]
      refine take_at (i := 3) (d := 21) (oi := ?o21) (v := ?v21) ?hi21 ?hd21 (by kernel_rfl) (by kernel_rfl) (by kernel_rfl) ?hw21 ?hy21 ?hq21 (by assumption) ?r21
      case hi21 => (simp only [List.getElem?_toArray, List.getElem?_cons_succ, List.getElem?_cons_zero]; rfl)
      case hd21 => rfl
      case hw21 => rfl
      case hy21 => ((intro w hSw; (try dsimp only at hSw); go_simp) <;> (with_reducible rfl))
      case hq21 => exact fun _ _ _ h => h
      simp only [List.set_cons_succ, List.set_cons_zero]
      refine take_at (i := 4) (d := 22) (oi := ?o22) (v := ?v22) ?hi22 ?hd22 (by kernel_rfl) (by kernel_rfl) (by kernel_rfl) ?hw22 ?hy22 ?hq22 (by assumption) ?r22
      case hi22 => (simp only [List.getElem?_toArray, List.getElem?_cons_succ, List.getElem?_cons_zero]; rfl)
      case hd22 => rfl
      case hw22 => rfl
      case hy22 => ((intro w hSw; (try dsimp only at hSw); go_simp) <;> (with_reducible rfl))
      case hq22 => exact fun _ _ _ h => h
      simp only [List.set_cons_succ, List.set_cons_zero]
      refine take_at (i := 5) (d := 23) (oi := ?o23) (v := ?v23) ?hi23 ?hd23 (by kernel_rfl) (by kernel_rfl) (by kernel_rfl) ?hw23 ?hy23 ?hq23 (by assumption) ?r23
      case hi23 => (simp only [List.getElem?_toArray, List.getElem?_cons_succ, List.getElem?_cons_zero]; rfl)
      case hd23 => rfl
      case hw23 => rfl
      case hy23 => ((intro w hSw; (try dsimp only at hSw); go_simp) <;> (with_reducible rfl))
      case hq23 => exact fun _ _ _ h => h
      simp only [List.set_cons_succ, List.set_cons_zero]
      refine take_at (i := 6) (d := 24) (oi := ?o24) (v := ?v24) ?hi24 ?hd24 (by kernel_rfl) (by kernel_rfl) (by kernel_rfl) ?hw24 ?hy24 ?hq24 (by assumption) ?r24
      case hi24 => (simp only [List.getElem?_toArray, List.getElem?_cons_succ, List.getElem?_cons_zero]; rfl)
      case hd24 => rfl
      case hw24 => rfl
      case hy24 => ((intro w hSw; (try dsimp only at hSw); go_simp) <;> (with_reducible rfl))
      case hq24 => exact fun _ _ _ h => h
      simp only [List.set_cons_succ, List.set_cons_zero]
      refine take_at (i := 7) (d := 25) (oi := ?o25) (v := ?v25) ?hi25 ?hd25 (by kernel_rfl) (by kernel_rfl) (by kernel_rfl) ?hw25 ?hy25 ?hq25 (by assumption) ?r25
      case hi25 => (simp only [List.getElem?_toArray, List.getElem?_cons_succ, List.getElem?_cons_zero]; rfl)
      case hd25 => rfl
      case hw25 => rfl
      case hy25 => ((intro w hSw; (try dsimp only at hSw); go_simp) <;> (with_reducible rfl))
      case hq25 => exact fun _ _ _ h => h
      simp only [List.set_cons_succ, List.set_cons_zero]
      refine take_at (i := 8) (d := 26) (oi := ?o26) (v := ?v26) ?hi26 ?hd26 (by kernel_rfl) (by kernel_rfl) (by kernel_rfl) ?hw26 ?hy26 ?hq26 (by assumption) ?r26
      case hi26 => (simp only [List.getElem?_toArray, List.getElem?_cons_succ, List.getElem?_cons_zero]; rfl)
      case hd26 => rfl
      case hw26 => rfl
      case hy26 => ((intro w hSw; (try dsimp only at hSw); have q0 := (Below.cell hSw (p := ⟨g, j * 3, none⟩) hgl).trans k0; have q1 := (Below.cell hSw (p := ⟨g, j * 3 + 1, none⟩) hgl).trans k1; have q2 := (Below.cell hSw (p := ⟨g, j * 3 + 2, none⟩) hgl).trans k2; clear hSw; go_simp) <;> (with_reducible rfl))
      case hq26 => exact fun _ _ _ h => h
      simp only [List.set_cons_succ, List.set_cons_zero]
      refine take_at (i := 9) (d := 27) (oi := ?o27) (v := ?v27) ?hi27 ?hd27 (by kernel_rfl) (by kernel_rfl) (by kernel_rfl) ?hw27 ?hy27 ?hq27 (by assumption) ?r27
      case hi27 => (simp only [List.getElem?_toArray, List.getElem?_cons_succ, List.getElem?_cons_zero]; rfl)
      case hd27 => rfl
      case hw27 => rfl
      case hy27 => ((intro w hSw; (try dsimp only at hSw); go_simp) <;> (with_reducible rfl))
      case hq27 => exact fun _ _ _ h => h
      simp only [List.set_cons_succ, List.set_cons_zero]
      refine take_at (i := 10) (d := 28) (oi := ?o28) (v := ?v28) ?hi28 ?hd28 (by kernel_rfl) (by kernel_rfl) (by kernel_rfl) ?hw28 ?hy28 ?hq28 (by assumption) ?r28
      case hi28 => (simp only [List.getElem?_toArray, List.getElem?_cons_succ, List.getElem?_cons_zero]; rfl)
      case hd28 => rfl
      case hw28 => rfl
      case hy28 => ((intro w hSw; (try dsimp only at hSw); go_simp) <;> (with_reducible rfl))
      case hq28 => exact fun _ _ _ h => h
      simp only [List.set_cons_succ, List.set_cons_zero]
      refine take_at (i := 11) (d := 29) (oi := ?o29) (v := ?v29) ?hi29 ?hd29 (by kernel_rfl) (by kernel_rfl) (by kernel_rfl) ?hw29 ?hy29 ?hq29 (by assumption) ?r29
      case hi29 => (simp only [List.getElem?_toArray, List.getElem?_cons_succ, List.getElem?_cons_zero]; rfl)
      case hd29 => rfl
      case hw29 => rfl
      case hy29 => ((intro w hSw; (try dsimp only at hSw); go_simp) <;> (with_reducible rfl))
      case hq29 => exact fun _ _ _ h => h
      simp only [List.set_cons_succ, List.set_cons_zero]
      refine take_at (i := 12) (d := 30) (oi := ?o30) (v := ?v30) ?hi30 ?hd30 (by kernel_rfl) (by kernel_rfl) (by kernel_rfl) ?hw30 ?hy30 ?hq30 (by assumption) ?r30
      case hi30 => (simp only [List.getElem?_toArray, List.getElem?_cons_succ, List.getElem?_cons_zero]; rfl)
      case hd30 => rfl
      case hw30 => rfl
      case hy30 => ((intro w hSw; (try dsimp only at hSw); go_simp) <;> (with_reducible rfl))
      case hq30 => exact fun _ _ _ h => h
      simp only [List.set_cons_succ, List.set_cons_zero]
      refine take_at (i := 13) (d := 31) (oi := ?o31) (v := ?v31) ?hi31 ?hd31 (by kernel_rfl) (by kernel_rfl) (by kernel_rfl) ?hw31 ?hy31 ?hq31 (by assumption) ?r31
      case hi31 => (simp only [List.getElem?_toArray, List.getElem?_cons_succ, List.getElem?_cons_zero]; rfl)
      case hd31 => rfl
      case hw31 => rfl
      case hy31 => ((intro w hSw; (try dsimp only at hSw); have q0 := (Below.cell hSw (p := ⟨g, j1 * 3, none⟩) hgl).trans m0; have q1 := (Below.cell hSw (p := ⟨g, j1 * 3 + 1, none⟩) hgl).trans m1; have q2 := (Below.cell hSw (p := ⟨g, j1 * 3 + 2, none⟩) hgl).trans m2; clear hSw; go_simp) <;> (with_reducible rfl))
      case hq31 => exact fun _ _ _ h => h
      simp only [List.set_cons_succ, List.set_cons_zero]
      refine call_at (i := 14) (d := 32) (oi := ?o32) (f := ?f32) (args := ?a32) ?hi32 ?hd32 (by kernel_rfl) ?hw32 ?he32 ?hc32
      case hi32 => (simp only [List.getElem?_toArray, List.getElem?_cons_succ, List.getElem?_cons_zero]; rfl)
      case hd32 => rfl
      case hw32 => rfl
      case he32 => (go_simp; constructor <;> with_reducible rfl)
      refine (order_any z y _).mono ?_
      rintro e wv ⟨rfl, hb1⟩
      have kb : Below wr.heap.size wr wv := hHeld.trans (hb1.mono hHeld.size)
      refine ⟨_, rfl, kb, fun hHeld => ?_⟩
      simp only [List.set_cons_succ, List.set_cons_zero]
      refine take_at (i := 15) (d := 33) (oi := ?o33) (v := ?v33) ?hi33 ?hd33 (by kernel_rfl) (by kernel_rfl) (by kernel_rfl) ?hw33 ?hy33 ?hq33 (by assumption) ?r33
      case hi33 => (simp only [List.getElem?_toArray, List.getElem?_cons_succ, List.getElem?_cons_zero]; rfl)
      case hd33 => rfl
      case hw33 => rfl
      case hy33 => ((intro w hSw; (try dsimp only at hSw); go_simp) <;> (with_reducible rfl))
      case hq33 => exact fun _ _ _ h => h
      simp only [List.set_cons_succ, List.set_cons_zero]
      refine take_at (i := 16) (d := 34) (oi := ?o34) (v := ?v34) ?hi34 ?hd34 (by kernel_rfl) (by kernel_rfl) (by kernel_rfl) ?hw34 ?hy34 ?hq34 (by assumption) ?r34
      case hi34 => (simp only [List.getElem?_toArray, List.getElem?_cons_succ, List.getElem?_cons_zero]; rfl)
      case hd34 => rfl
      case hw34 => rfl
      case hy34 => ((intro w hSw; (try dsimp only at hSw); go_simp) <;> (with_reducible rfl))
      case hq34 => exact fun _ _ _ h => h
      simp only [List.set_cons_succ, List.set_cons_zero]
      refine wpAnyH_done (by kernel_rfl) ?_ _
      clear k0 k1 k2 m0 m1 m2
      have hsk := HS.out.1.on hHeld
      have hBk := HS.out.2.2.1.trans (hHeld.mono (Nat.le_of_lt (Nat.lt_of_le_of_lt HS.out.1.lt.1 HS.out.1.lt.2)))
      obtain ⟨k0, k1, k2⟩ := hsk.cells hn1
      obtain ⟨m0, m1, m2⟩ := hsk.cells hn2
      rw [HS.out.2.2.2.1] at k0 k1 k2
      rw [HS.out.2.2.2.2] at m0 m1 m2
      have f0 := hsk.frozen (j * 3)
      have f1 := hsk.frozen (j * 3 + 1)
      have f2 := hsk.frozen (j * 3 + 2)
      have hs1 := hsk.put hn1 y
      obtain ⟨p0, p1', p2⟩ := hs1.cells hn2
      have q0 := hs1.frozen (j1 * 3)
      have q1 := hs1.frozen (j1 * 3 + 1)
      have q2 := hs1.frozen (j1 * 3 + 2)
      unfold putI at p0 p1' p2 q0 q1 q2
      have HZ := Lib.hid (⟨hsk, hBk⟩ : _ ∧ _)
      clear hsk hBk hs1 hHeld kb hb1
      go_wp2_with fail
      go_region
      go_wp2_with fail
      go_roundw
      case rel =>
        obtain ⟨-, hdj, -, hvx, hvy⟩ := HS.out
        obtain ⟨hj, hj1, hk⟩ := HQ.out
        have h1 := Sym.carry_down (d := dj) hdj (by omega)
        rw [HD.out.2.2.1, ← hj, ← hj1] at h1
        exact ⟨j1, k', swp dj j j1, rfl, hj1, by omega, HZ.out.1.swap hn1 hn2 hvx hvy, h1, .inr ⟨y, hy, hLs⟩, swap_below hg.1 HZ.out.2 j j1 z y⟩
      case measure => simp [intOf]; omega
    · have hLs : ¬ LessP z y := fun h => hless ((less_iff z y).2 h)
      have tl : decide (orderP z y < 0) = false := decide_eq_false hless
      have HX := Lib.hid (HNX.out (.inr ⟨y, by rw [Nat.add_sub_cancel]; exact hy, hLs⟩))
      clear HNX hsj hdj hBj hvx hvy hXl hj hj1 hk hnb
      go_wp2_with fail
      refine wp_region_held_drew (S := (fun W => Below wr.heap.size wr W)) (by kernel_rfl) (below_dr (below_d0 _)) (fun hHeld => ?_)
      refine take_at (i := 0) (d := 18) (oi := ?o35) (v := ?v35) ?hi35 ?hd35 (by kernel_rfl) (by kernel_rfl) (by kernel_rfl) ?hw35 ?hy35 ?hq35 (by assumption) ?r35
      case hi35 => (simp only [List.getElem?_toArray, List.getElem?_cons_zero]; rfl)
      case hd35 => rfl
      case hw35 => rfl
      case hy35 => ((intro w hSw; (try dsimp only at hSw); go_simp) <;> (with_reducible rfl))
      case hq35 => exact fun _ _ _ h => h
      simp only [List.set_cons_succ, List.set_cons_zero]
      refine take_at (i := 1) (d := 19) (oi := ?o36) (v := ?v36) ?hi36 ?hd36 (by kernel_rfl) (by kernel_rfl) (by kernel_rfl) ?hw36 ?hy36 ?hq36 (by assumption) ?r36
      case hi36 => (simp only [List.getElem?_toArray, List.getElem?_cons_succ, List.getElem?_cons_zero]; rfl)
      case hd36 => rfl
      case hw36 => rfl
      case hy36 => ((intro w hSw; (try dsimp only at hSw); go_simp) <;> (with_reducible rfl))
      case hq36 => exact fun _ _ _ h => h
      simp only [List.set_cons_succ, List.set_cons_zero]
      refine take_at (i := 2) (d := 20) (oi := ?o37) (v := ?v37) ?hi37 ?hd37 (by kernel_rfl) (by kernel_rfl) (by kernel_rfl) ?hw37 ?hy37 ?hq37 (by assumption) ?r37
      case hi37 => (simp only [List.getElem?_toArray, List.getElem?_cons_succ, List.getElem?_cons_zero]; rfl)
      case hd37 => rfl
      case hw37 => rfl
      case hy37 => ((intro w hSw; (try dsimp only at hSw); go_simp) <;> (with_reducible rfl))
      case hq37 => exact fun _ _ _ h => h
      simp only [List.set_cons_succ, List.set_cons_zero]
      refine take_at (i := 3) (d := 21) (oi := ?o38) (v := ?v38) ?hi38 ?hd38 (by kernel_rfl) (by kernel_rfl) (by kernel_rfl) ?hw38 ?hy38 ?hq38 (by assumption) ?r38
      case hi38 => (simp only [List.getElem?_toArray, List.getElem?_cons_succ, List.getElem?_cons_zero]; rfl)
      case hd38 => rfl
      case hw38 => rfl
      case hy38 => ((intro w hSw; (try dsimp only at hSw); go_simp) <;> (with_reducible rfl))
      case hq38 => exact fun _ _ _ h => h
      simp only [List.set_cons_succ, List.set_cons_zero]
      refine take_at (i := 4) (d := 22) (oi := ?o39) (v := ?v39) ?hi39 ?hd39 (by kernel_rfl) (by kernel_rfl) (by kernel_rfl) ?hw39 ?hy39 ?hq39 (by assumption) ?r39
      case hi39 => (simp only [List.getElem?_toArray, List.getElem?_cons_succ, List.getElem?_cons_zero]; rfl)
      case hd39 => rfl
      case hw39 => rfl
      case hy39 => ((intro w hSw; (try dsimp only at hSw); go_simp) <;> (with_reducible rfl))
      case hq39 => exact fun _ _ _ h => h
      simp only [List.set_cons_succ, List.set_cons_zero]
      refine take_at (i := 5) (d := 23) (oi := ?o40) (v := ?v40) ?hi40 ?hd40 (by kernel_rfl) (by kernel_rfl) (by kernel_rfl) ?hw40 ?hy40 ?hq40 (by assumption) ?r40
      case hi40 => (simp only [List.getElem?_toArray, List.getElem?_cons_succ, List.getElem?_cons_zero]; rfl)
      case hd40 => rfl
      case hw40 => rfl
      case hy40 => ((intro w hSw; (try dsimp only at hSw); go_simp) <;> (with_reducible rfl))
      case hq40 => exact fun _ _ _ h => h
      simp only [List.set_cons_succ, List.set_cons_zero]
      refine take_at (i := 6) (d := 24) (oi := ?o41) (v := ?v41) ?hi41 ?hd41 (by kernel_rfl) (by kernel_rfl) (by kernel_rfl) ?hw41 ?hy41 ?hq41 (by assumption) ?r41
      case hi41 => (simp only [List.getElem?_toArray, List.getElem?_cons_succ, List.getElem?_cons_zero]; rfl)
      case hd41 => rfl
      case hw41 => rfl
      case hy41 => ((intro w hSw; (try dsimp only at hSw); go_simp) <;> (with_reducible rfl))
      case hq41 => exact fun _ _ _ h => h
      simp only [List.set_cons_succ, List.set_cons_zero]
      refine take_at (i := 7) (d := 25) (oi := ?o42) (v := ?v42) ?hi42 ?hd42 (by kernel_rfl) (by kernel_rfl) (by kernel_rfl) ?hw42 ?hy42 ?hq42 (by assumption) ?r42
      case hi42 => (simp only [List.getElem?_toArray, List.getElem?_cons_succ, List.getElem?_cons_zero]; rfl)
      case hd42 => rfl
      case hw42 => rfl
      case hy42 => ((intro w hSw; (try dsimp only at hSw); go_simp) <;> (with_reducible rfl))
      case hq42 => exact fun _ _ _ h => h
      simp only [List.set_cons_succ, List.set_cons_zero]
      refine take_at (i := 8) (d := 26) (oi := ?o43) (v := ?v43) ?hi43 ?hd43 (by kernel_rfl) (by kernel_rfl) (by kernel_rfl) ?hw43 ?hy43 ?hq43 (by assumption) ?r43
      case hi43 => (simp only [List.getElem?_toArray, List.getElem?_cons_succ, List.getElem?_cons_zero]; rfl)
      case hd43 => rfl
      case hw43 => rfl
      case hy43 => ((intro w hSw; (try dsimp only at hSw); have q0 := (Below.cell hSw (p := ⟨g, j * 3, none⟩) hgl).trans k0; have q1 := (Below.cell hSw (p := ⟨g, j * 3 + 1, none⟩) hgl).trans k1; have q2 := (Below.cell hSw (p := ⟨g, j * 3 + 2, none⟩) hgl).trans k2; clear hSw; go_simp) <;> (with_reducible rfl))
      case hq43 => exact fun _ _ _ h => h
      simp only [List.set_cons_succ, List.set_cons_zero]
      refine take_at (i := 9) (d := 27) (oi := ?o44) (v := ?v44) ?hi44 ?hd44 (by kernel_rfl) (by kernel_rfl) (by kernel_rfl) ?hw44 ?hy44 ?hq44 (by assumption) ?r44
      case hi44 => (simp only [List.getElem?_toArray, List.getElem?_cons_succ, List.getElem?_cons_zero]; rfl)
      case hd44 => rfl
      case hw44 => rfl
      case hy44 => ((intro w hSw; (try dsimp only at hSw); go_simp) <;> (with_reducible rfl))
      case hq44 => exact fun _ _ _ h => h
      simp only [List.set_cons_succ, List.set_cons_zero]
      refine take_at (i := 10) (d := 28) (oi := ?o45) (v := ?v45) ?hi45 ?hd45 (by kernel_rfl) (by kernel_rfl) (by kernel_rfl) ?hw45 ?hy45 ?hq45 (by assumption) ?r45
      case hi45 => (simp only [List.getElem?_toArray, List.getElem?_cons_succ, List.getElem?_cons_zero]; rfl)
      case hd45 => rfl
      case hw45 => rfl
      case hy45 => ((intro w hSw; (try dsimp only at hSw); go_simp) <;> (with_reducible rfl))
      case hq45 => exact fun _ _ _ h => h
      simp only [List.set_cons_succ, List.set_cons_zero]
      refine take_at (i := 11) (d := 29) (oi := ?o46) (v := ?v46) ?hi46 ?hd46 (by kernel_rfl) (by kernel_rfl) (by kernel_rfl) ?hw46 ?hy46 ?hq46 (by assumption) ?r46
      case hi46 => (simp only [List.getElem?_toArray, List.getElem?_cons_succ, List.getElem?_cons_zero]; rfl)
      case hd46 => rfl
      case hw46 => rfl
      case hy46 => ((intro w hSw; (try dsimp only at hSw); go_simp) <;> (with_reducible rfl))
      case hq46 => exact fun _ _ _ h => h
      simp only [List.set_cons_succ, List.set_cons_zero]
      refine take_at (i := 12) (d := 30) (oi := ?o47) (v := ?v47) ?hi47 ?hd47 (by kernel_rfl) (by kernel_rfl) (by kernel_rfl) ?hw47 ?hy47 ?hq47 (by assumption) ?r47
      case hi47 => (simp only [List.getElem?_toArray, List.getElem?_cons_succ, List.getElem?_cons_zero]; rfl)
      case hd47 => rfl
      case hw47 => rfl
      case hy47 => ((intro w hSw; (try dsimp only at hSw); go_simp) <;> (with_reducible rfl))
      case hq47 => exact fun _ _ _ h => h
      simp only [List.set_cons_succ, List.set_cons_zero]
      refine take_at (i := 13) (d := 31) (oi := ?o48) (v := ?v48) ?hi48 ?hd48 (by kernel_rfl) (by kernel_rfl) (by kernel_rfl) ?hw48 ?hy48 ?hq48 (by assumption) ?r48
      case hi48 => (simp only [List.getElem?_toArray, List.getElem?_cons_succ, List.getElem?_cons_zero]; rfl)
      case hd48 => rfl
      case hw48 => rfl
      case hy48 => ((intro w hSw; (try dsimp only at hSw); have q0 := (Below.cell hSw (p := ⟨g, j1 * 3, none⟩) hgl).trans m0; have q1 := (Below.cell hSw (p := ⟨g, j1 * 3 + 1, none⟩) hgl).trans m1; have q2 := (Below.cell hSw (p := ⟨g, j1 * 3 + 2, none⟩) hgl).trans m2; clear hSw; go_simp) <;> (with_reducible rfl))
      case hq48 => exact fun _ _ _ h => h
      simp only [List.set_cons_succ, List.set_cons_zero]
      refine call_at (i := 14) (d := 32) (oi := ?o49) (f := ?f49) (args := ?a49) ?hi49 ?hd49 (by kernel_rfl) ?hw49 ?he49 ?hc49
      case hi49 => (simp only [List.getElem?_toArray, List.getElem?_cons_succ, List.getElem?_cons_zero]; rfl)
      case hd49 => rfl
      case hw49 => rfl
      case he49 => (go_simp; constructor <;> with_reducible rfl)
      refine (order_any z y _).mono ?_
      rintro e wv ⟨rfl, hb1⟩
      have kb : Below wr.heap.size wr wv := hHeld.trans (hb1.mono hHeld.size)
      refine ⟨_, rfl, kb, fun hHeld => ?_⟩
      simp only [List.set_cons_succ, List.set_cons_zero]
      refine take_at (i := 15) (d := 33) (oi := ?o50) (v := ?v50) ?hi50 ?hd50 (by kernel_rfl) (by kernel_rfl) (by kernel_rfl) ?hw50 ?hy50 ?hq50 (by assumption) ?r50
      case hi50 => (simp only [List.getElem?_toArray, List.getElem?_cons_succ, List.getElem?_cons_zero]; rfl)
      case hd50 => rfl
      case hw50 => rfl
      case hy50 => ((intro w hSw; (try dsimp only at hSw); go_simp) <;> (with_reducible rfl))
      case hq50 => exact fun _ _ _ h => h
      simp only [List.set_cons_succ, List.set_cons_zero]
      refine take_at (i := 16) (d := 34) (oi := ?o51) (v := ?v51) ?hi51 ?hd51 (by kernel_rfl) (by kernel_rfl) (by kernel_rfl) ?hw51 ?hy51 ?hq51 (by assumption) ?r51
      case hi51 => (simp only [List.getElem?_toArray, List.getElem?_cons_succ, List.getElem?_cons_zero]; rfl)
      case hd51 => rfl
      case hw51 => rfl
      case hy51 => ((intro w hSw; (try dsimp only at hSw); go_simp) <;> (with_reducible rfl))
      case hq51 => exact fun _ _ _ h => h
      simp only [List.set_cons_succ, List.set_cons_zero]
      refine wpAnyH_done (by kernel_rfl) ?_ _
      have HZ := Lib.hid (⟨HS.out.1.on hHeld, HS.out.2.2.1.trans (hHeld.mono (Nat.le_of_lt (Nat.lt_of_le_of_lt HS.out.1.lt.1 HS.out.1.lt.2))), HX.out⟩ : _ ∧ _ ∧ _)
      clear k0 k1 k2 m0 m1 m2
      go_wp2_with fail
      go_roundw
      case rel =>
        obtain ⟨i', dk, C', R2, hi', h1, h2, rfl, h3, h4, h5, h6, h7⟩ := HZ.out.2.2
        exact ⟨i', dj, C', R2, by rw [hi']; go_num, h1, h2, HZ.out.1, h3, h4, h5, h6, h7, HZ.out.2.1⟩
      case measure => simp [intOf]; omega
  · have HS := Lib.hid (⟨hsk, hdk, hB, ho, hp, hC, hR⟩ : _ ∧ _ ∧ _ ∧ _ ∧ _ ∧ _ ∧ _)
    have hib2 : i = b := by omega
    have HI := Lib.hid hib2
    have t1 : decide ((i : Int) < (b : Int)) = false := by simp; omega
    clear hsk hdk hB ho hp hC hR hib2
    go_wp2_with fail
    go_end0
    obtain ⟨hsk, hdk, hB, ho, hp, hC, hR⟩ := HS.out
    have hR0 : R = [] := List.length_eq_zero_iff.1 (by have := HI.out; omega)
    subst hR0
    rw [List.append_nil] at hp
    exact ⟨rfl, ⟨dk, hsk, C, by rw [hdk]; rfl, ho, hp⟩, hB⟩

end Go.Proofs.YtbfdjjkphmchgaaDoor
