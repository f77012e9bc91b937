/-
  moultref04.all: its contract.
-/
import Derived.Test.YtmfiopopiikbmaaRefB
namespace Go.Proofs.Ytmfiopopiikbmaa
open Go.RowKit

/-- What holds of the files so far. -/
def Held (l : List FileP) (v : Value) (w : World) : Prop := ∃ A n c fs, v = .slice A n c ∧ n ≤ c ∧ Fs w w.heap.size A n fs ∧ fs.map FileM.pure = l
theorem Held.on {l : List FileP} {v : Value} {w w' : World} (h : Held l v w) (hb : Below w.heap.size w w') : Held l v w' := by
  obtain ⟨A, n, c, fs, e, hc, hf, hl⟩ := h
  exact ⟨A, n, c, fs, e, hc, hf.on hb hb.size, hl⟩
theorem bnd_mem {X : Nat} {fs : List FileM} {w : World} {B : Nat} {A : Option Addr} {n : Nat} (hf : Fs w B A n fs) (h : Bnd X (fs.map FileM.pure)) : ∀ f ∈ fs, f.p.n ≤ X := fun f hm => by
  have h1 := h f.pure (List.mem_map_of_mem hm)
  have h2 := (hf.ok f hm).rd.1
  rw [← h2]
  exact h1

set_option maxRecDepth 100000 in
set_option maxHeartbeats 1000000 in
theorem all_any (A : Option Addr) (n c : Nat) (fs : List FileM) (A' : Option Addr) (n' c' : Nat) (os : List OpM) (w : World) (hr : Fs w w.heap.size A n fs) (hr' : Os w w.heap.size A' n' os) (hn : n ≤ 1000) (hn' : n' ≤ 1000)
    (hs : ∀ f ∈ fs, f.p.n ≤ 1048576) (hs' : ∀ o ∈ os, o.p.n ≤ 1048576) :
    Calls Try.prog 49 #[.slice A n c, .slice A' n' c'] w fun e w' => ToldP (allP (fs.map FileM.pure) (os.map OpM.pure)) e w' ∧ Below w.heap.size w w' := by
  have hX : Bnd 1048576 (fs.map FileM.pure) := fun g hg => by
    obtain ⟨f, hf, rfl⟩ := List.mem_map.1 hg
    have h1 := hs f hf
    have h2 := (hr.ok f hf).rd.1
    show f.p.l.length ≤ 1048576
    omega
  have hY : ∀ o ∈ os.map OpM.pure, o.bytes.length ≤ 1048576 := fun g hg => by
    obtain ⟨o, ho, rfl⟩ := List.mem_map.1 hg
    have h1 := hs' o ho
    have h2 := (hr'.ok o ho).1.rd.1
    show o.p.l.length ≤ 1048576
    omega
  have Hl := Lib.hid hr.len
  have Hl' := Lib.hid hr'.len
  have HX := Lib.hid hX
  have HY := Lib.hid hY
  have Hs' := Lib.hid hs'
  have Hnx := Lib.hid (fun (k : Nat) (f : FileM) (h : fs[k]? = some f) => foldl_take firstStep [] (l := fs.map FileM.pure) (k := k) (x := f.pure) (by rw [List.getElem?_map, h]; rfl))
  have Hnx' := Lib.hid (fun (k : Nat) (o : OpM) (h : os[k]? = some o) => foldl_take doneP (firstsP (fs.map FileM.pure)) (l := os.map OpM.pure) (k := k) (x := o.pure) (by rw [List.getElem?_map, h]; rfl))
  clear hX hY hs hs'
  go_enter Try.func49, Try.ntmps49
  go_wp2_with fail
  go_loopw [5, 6] (fun v i wr => ∃ k : Nat, k ≤ n ∧ i = .int .i64 k ∧ Held (((fs.map FileM.pure).take k).foldl firstStep []) v wr ∧ Below w.heap.size w wr) (fun _ i _ => n - (intOf i).toNat)
  case atStart => exact ⟨0, Nat.zero_le _, rfl, ⟨none, 0, 0, [], rfl, Nat.le_refl _, Fs.nil, rfl⟩, Below.refl _ _⟩
  case round =>
    obtain ⟨k, hk, rfl, ⟨A1, n1, c1, fs1, rfl, hc1, hf1, hp1⟩, hB⟩ := hrel
    have hsz := hB.size
    have hn1 : n1 ≤ n := by
      have h1 := firsts_length ((fs.map FileM.pure).take k) []
      rw [← hp1, List.length_map, hf1.len, List.length_take, List.length_nil] at h1
      omega
    by_cases hlt : k < n
    · obtain ⟨b, off, f, rfl, hbl, hf, h0, h1, hok⟩ := (hr.on hB hsz).at_ hlt
      have Hn := Lib.hid (Hnx.out k f hf)
      have Hp1 := Lib.hid hp1
      clear hf hp1
      go_wp2_with fail
      refine (find_any A1 n1 c1 fs1 f.name _ hf1 (by omega)).mono ?_
      rintro e w' ⟨rfl, rfl⟩
      by_cases hfd : findG FileM.name fs1 f.name < 0
      · have hd : decide (findG FileM.name fs1 f.name < 0) = true := decide_eq_true hfd
        have He : Hid (((fs.map FileM.pure).take (k + 1)).foldl firstStep [] = (withG FileM.name fs1 f).map FileM.pure) := by
          rw [Hn.out, ← Hp1.out, with_pure]
          unfold firstStep
          rw [find_pure, if_pos (show findG FileM.name fs1 f.pure.name < 0 from hfd)]
          exact Lib.hid rfl
        clear hfd
        go_wp2_with fail
        refine (with_any A1 n1 c1 fs1 f _ hf1 hc1 (by omega) hok).mono ?_
        rintro e w2 ⟨⟨A2, n2, c2, rfl, hc2, hf2⟩, hb2⟩
        go_wp2_with fail
        go_roundw
        case rel => exact ⟨k + 1, by omega, by go_num, by rw [He.out]; exact ⟨A2, n2, c2, _, rfl, hc2, hf2, rfl⟩, hB.trans (hb2.mono hsz)⟩
        case measure => simp [intOf]; omega
      · have hd : decide (findG FileM.name fs1 f.name < 0) = false := decide_eq_false hfd
        have He : Hid (((fs.map FileM.pure).take (k + 1)).foldl firstStep [] = fs1.map FileM.pure) := by
          rw [Hn.out, ← Hp1.out]
          unfold firstStep
          rw [find_pure, if_neg (show ¬ findG FileM.name fs1 f.pure.name < 0 from hfd)]
          exact Lib.hid rfl
        clear hfd
        go_wp2_with fail
        go_roundw
        case rel => exact ⟨k + 1, by omega, by go_num, by rw [He.out]; exact ⟨A1, n1, c1, _, rfl, hc1, hf1, rfl⟩, hB⟩
        case measure => simp [intOf]; omega
    · obtain rfl : k = n := by omega
      have hp2 : fs1.map FileM.pure = firstsP (fs.map FileM.pure) := by
        rw [hp1, firsts_eq, List.take_of_length_le (by rw [List.length_map, Hl.out]; exact Nat.le_refl _)]
      have Hh : Hid (Held (firstsP (fs.map FileM.pure)) (.slice A1 n1 c1) wr) := Lib.hid ⟨A1, n1, c1, fs1, rfl, hc1, hf1, hp2⟩
      clear hp1 hp2 hf1 hc1
      go_wp2_with fail
      go_loopw [5, 7] (fun v i wr => ∃ j : Nat, j ≤ n' ∧ i = .int .i64 j ∧ Held (((os.map OpM.pure).take j).foldl doneP (firstsP (fs.map FileM.pure))) v wr ∧ Below w.heap.size w wr) (fun _ i _ => n' - (intOf i).toNat)
      case atStart => exact ⟨0, Nat.zero_le _, rfl, Hh.out, hB⟩
      case round =>
        obtain ⟨j, hj, rfl, ⟨A2, n2, c2, fs2, rfl, hc2, hf2, hp2⟩, hB2⟩ := hrel
        have hsz2 := hB2.size
        by_cases hlt2 : j < n'
        · obtain ⟨b, off, o, rfl, hbl, ho, o0, o1, o2, o3, hok, _, _⟩ := (hr'.on hB2 hsz2).at_ hlt2
          have hn2 : n2 ≤ 2000 := by
            have h1 := dones_length ((os.map OpM.pure).take j) (firstsP (fs.map FileM.pure))
            have h2 := firsts_length (fs.map FileM.pure) []
            rw [← firsts_eq, List.length_map, Hl.out, List.length_nil] at h2
            rw [← hp2, List.length_map, hf2.len, List.length_take] at h1
            omega
          have hb2 : Bnd (1048576 + j * 1048576) (fs2.map FileM.pure) := by
            rw [hp2]
            have h1 := dones_bnd ((os.map OpM.pure).take j) (firstsP (fs.map FileM.pure)) (firsts_bnd HX.out [] (fun f hf => by cases hf)) (fun o ho => HY.out o (List.mem_of_mem_take ho))
            refine h1.mono ?_
            rw [List.length_take, List.length_map, Hl'.out, Nat.min_eq_left hj]
            exact Nat.le_refl _
          have hsz3 : ∀ f ∈ fs2, f.p.n ≤ 1099511627776 := fun f hf => by
            have h1 := bnd_mem hf2 hb2 f hf
            have h2 : j * 1048576 ≤ 1000 * 1048576 := Nat.mul_le_mul_right _ (by omega)
            omega
          have hos : o.p.n ≤ 1099511627776 := Nat.le_trans (Hs'.out o (List.mem_of_getElem? ho)) (by omega)
          have He := Lib.hid (Hnx'.out j o ho)
          rw [← hp2] at He
          have Hsz3 := Lib.hid hsz3
          clear ho hp2 hb2 hsz3
          go_wp2_with fail
          refine (done_any A2 n2 c2 fs2 o _ hf2 hc2 (by omega) hok Hsz3.out hos).mono ?_
          rintro e w3 ⟨⟨A3, n3, c3, fs3, rfl, hc3, hf3, hp3⟩, hb3⟩
          go_wp2_with fail
          go_roundw
          case rel => exact ⟨j + 1, by omega, by go_num, by rw [He.out]; exact ⟨A3, n3, c3, fs3, rfl, hc3, hf3, hp3⟩, hB2.trans (hb3.mono hsz2)⟩
          case measure => simp [intOf]; omega
        · obtain rfl : j = n' := by omega
          have Hp : Hid (fs2.map FileM.pure = allP (fs.map FileM.pure) (os.map OpM.pure)) := by
            rw [hp2, List.take_of_length_le (by rw [List.length_map, Hl'.out]; exact Nat.le_refl _)]
            exact Lib.hid rfl
          clear hp2
          go_wp2_with fail
          go_ret
          exact ⟨⟨A2, n2, c2, fs2, rfl, hc2, hf2, Hp.out⟩, hB2⟩

end Go.Proofs.Ytmfiopopiikbmaa
