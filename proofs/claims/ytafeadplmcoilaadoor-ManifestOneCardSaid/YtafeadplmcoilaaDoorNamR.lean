/-
  The files of a manifest that may be: each has a name, no two the same; the document's Names; which formats, which places.
-/
import Derived.Test.YtafeadplmcoilaaDoorSameL
namespace Go.Proofs.YtafeadplmcoilaaDoor
open Go.RowKit
set_option linter.unusedVariables false
set_option linter.unusedSimpArgs false

def Apart (x y : IdP) : Prop := ¬ (x.kind = y.kind ∧ x.seq = y.seq ∧ x.fmt = y.fmt)
theorem mfile_in {m : ManP} {x : IdP} (h : x ∈ filesP m) : (m.ss ≠ 0 ∧ x = ⟨4, m.ss, m.sf⟩) ∨ ∃ (i : Nat) (s : SegP), m.sg[i]? = some s ∧ x = segF s := by
  rcases List.mem_append.1 h with h | h
  · by_cases h0 : m.ss = 0
    · rw [snap_none h0] at h
      cases h
    · rw [snap_one h0] at h
      exact .inl ⟨h0, List.mem_singleton.1 h⟩
  · obtain ⟨s, hs, e⟩ := List.mem_map.1 h
    obtain ⟨i, hi⟩ := List.mem_iff_getElem?.1 hs
    exact .inr ⟨i, s, hi, e.symm⟩
theorem snap_seq {m : ManP} (h : May m) (h0 : m.ss ≠ 0) : FileM m m.ss m.sf := by
  rcases h.snap with a | a
  · exact absurd a.1 h0
  · exact a
theorem file_may {m : ManP} (h : May m) {k sq fm : Int} (hk : k = 3 ∨ k = 4) (f : FileM m sq fm) : MayP ⟨k, sq, fm⟩ := by
  obtain ⟨a, b, c⟩ := f
  have := h.nx.2
  exact .inr ⟨hk, a, by show sq ≤ 1073741824; omega, c⟩
theorem keep_mayP {m : ManP} (h : May m) : ∀ x ∈ keepP m, MayP x := by
  intro x hx
  rcases List.mem_cons.1 hx with rfl | hx
  · exact .inl ⟨.inl rfl, rfl, rfl⟩
  · rcases mfile_in hx with ⟨h0, rfl⟩ | ⟨i, s, hi, rfl⟩
    · exact file_may h (.inr rfl) (snap_seq h h0)
    · exact file_may h (.inl rfl) (h.segs i s hi).file
theorem keep_apart {m : ManP} (h : May m) : (keepP m).Pairwise Apart := by
  refine List.pairwise_cons.2 ⟨fun x hx e => ?_, List.pairwise_append.2 ⟨?_, ?_, fun x hx y hy e => ?_⟩⟩
  · have e1 : (1 : Int) = x.kind := e.1
    rcases mfile_in hx with ⟨-, rfl⟩ | ⟨i, s, -, rfl⟩
    · exact absurd e1 (by show (1 : Int) ≠ 4; decide)
    · exact absurd e1 (by show (1 : Int) ≠ 3; decide)
  · by_cases h0 : m.ss = 0
    · rw [snap_none h0]
      exact .nil
    · rw [snap_one h0]
      exact List.pairwise_singleton _ _
  · refine List.pairwise_map.2 (List.pairwise_iff_getElem.2 fun i j hi hj hij e => ?_)
    have e1 : (m.sg[i]).sq = (m.sg[j]).sq := e.2.1
    exact (h.segs j _ (List.getElem?_eq_getElem hj)).new i _ hij (List.getElem?_eq_getElem hi) e1
  · by_cases h0 : m.ss = 0
    · rw [snap_none h0] at hx
      cases hx
    · rw [snap_one h0] at hx
      rw [List.mem_singleton.1 hx] at e
      obtain ⟨s, hs, rfl⟩ := List.mem_map.1 hy
      exact absurd e.1 (by show (4 : Int) ≠ 3; decide)
theorem keep_len {m : ManP} {n : Nat} (hn : m.sg.length = n) : (keepP m).length = 1 + n + (if m.ss = 0 then 0 else 1) := by
  by_cases h0 : m.ss = 0
  · simp [keepP, filesP, snap_none h0, h0, hn, Nat.add_comm]
  · simp [keepP, filesP, snap_one h0, h0, hn]
    omega
theorem two_files {m : ManP} (h : May m) : TwoIs m ((filesP m).any fun x => x.fmt == 2) := by
  refine List.any_eq_true.trans ⟨fun ⟨x, hx, e⟩ => ?_, fun t => ?_⟩
  · have e2 : x.fmt = 2 := by simpa using e
    rcases mfile_in hx with ⟨-, rfl⟩ | ⟨i, s, hi, rfl⟩
    · exact .inl e2
    · exact .inr ⟨i, s, hi, e2⟩
  · rcases t with t | ⟨i, s, hi, e⟩
    · have h0 : m.ss ≠ 0 := fun h0 => by
        rcases h.snap with a | a
        · rw [a.2] at t
          exact absurd t (by decide)
        · have := a.1
          omega
      exact ⟨⟨4, m.ss, m.sf⟩, List.mem_append.2 (.inl (by rw [snap_one h0]; exact List.mem_singleton.2 rfl)), by simpa using t⟩
    · exact ⟨segF s, List.mem_append.2 (.inr (List.mem_map.2 ⟨s, List.mem_iff_getElem?.2 ⟨i, hi⟩, rfl⟩)), by show (s.fm == 2) = true; simpa using e⟩
theorem any_next {l : List IdP} {p : IdP → Bool} {k : Nat} {x : IdP} (hx : l[k]? = some x) : (l.take (k + 1)).any p = ((l.take k).any p || p x) := by
  rw [List.take_add_one, hx, List.any_append]
  simp
theorem keep_next {m : ManP} {k : Nat} (hk : 0 < k) : (keepP m)[k]? = (filesP m)[k - 1]? := by
  obtain ⟨j, rfl⟩ : ∃ j, k = j + 1 := ⟨k - 1, by omega⟩
  rfl
/-- Which segment is open, by its place. -/
theorem open_place {m : ManP} (h : May m) {i : Int} {ok : Bool} (ho : OpenIs m i ok) {k : Nat} {s : SegP} (hs : m.sg[k]? = some s) :
    (ok = true ∧ ((k : Int) == i) = true ∧ (s.ct == -1) = true) ∨ (ok = true ∧ ((k : Int) == i) = false ∧ (s.ct == -1) = false) ∨ (ok = false ∧ (s.ct == -1) = false) := by
  obtain ⟨n, hn, a⟩ := ho
  have hk := (List.getElem?_eq_some_iff.1 hs).1
  have hc := (h.segs k s hs).count
  rcases a with ⟨⟨t, ht, h0, ht1⟩, rfl, rfl⟩ | ⟨hno, rfl, rfl⟩
  · by_cases hkn : k = n - 1
    · subst hkn
      obtain rfl : s = t := Option.some.inj (hs.symm.trans ht)
      exact .inl ⟨rfl, by simp; omega, by simpa using ht1⟩
    · exact .inr (.inl ⟨rfl, by simp; omega, by simp; omega⟩)
  · refine .inr (.inr ⟨rfl, ?_⟩)
    by_cases hc1 : s.ct = -1
    · exact absurd ⟨s, by rw [show n - 1 = k by omega]; exact hs, by omega, hc1⟩ hno
    · simpa using hc1

set_option maxRecDepth 100000 in
set_option maxHeartbeats 2000000 in
theorem rnames_true (A : Option Addr) (n c : Nat) (l : List IdP) (w : World) (h1 : Ids w w.heap.size A n l) (hn : n ≤ 1000) (hm : ∀ x ∈ l, MayP x) (ha : l.Pairwise Apart) :
    Calls Tryd.prog 27 #[.slice A n c] w fun e w' => e = .returned (.bool true) ∧ Below w.heap.size w w' := by
  have Hl := Lib.hid (⟨h1, hm, ha⟩ : _ ∧ _ ∧ _)
  clear h1 hm ha
  go_enter Tryd.func27, Tryd.ntmps27
  go_wp2_with fail
  go_loopw [3] (fun i wr => ∃ (k : Nat), k ≤ n ∧ i = .int .i64 k ∧ Below w.heap.size w wr) (fun i _ => n - (intOf i).toNat)
  case atStart => exact ⟨0, Nat.zero_le _, rfl, below_d0 w⟩
  case round =>
    obtain ⟨k, hk, rfl, hB⟩ := hrel
    by_cases hlt : k < n
    · obtain ⟨b, off, x, rfl, hb, hs, c0, c1, c2'⟩ := Ids.get (Hl.out.1.on hB (Nat.le_refl _)) hlt
      have Hx := Lib.hid hs
      clear hs hb
      have Hm := Lib.hid (decide_eq_true (Hl.out.2.1 x (List.mem_iff_getElem?.2 ⟨k, Hx.out⟩)))
      go_wp2_with fail
      clear c0 c1 c2'
      refine Calls.mono (may_any x wr) ?_
      rintro e w1 ⟨rfl, bb⟩
      rw [Hm.out]
      have hB1 : Below w.heap.size w w1 := hB.trans (bb.mono hB.size)
      clear bb hB Hm
      go_wp2_with fail
      go_loopw [4] (fun i wr => ∃ (j : Nat), j ≤ k ∧ i = .int .i64 j ∧ Below w.heap.size w wr) (fun i _ => k - (intOf i).toNat)
      case atStart => exact ⟨0, Nat.zero_le _, rfl, hB1⟩
      case round =>
        clear hB1
        obtain ⟨j, hj, rfl, hB⟩ := hrel
        by_cases hlj : j < k
        · obtain ⟨b1, off1, y, e1, hb1, hs1, d0, d1, d2⟩ := Ids.get (Hl.out.1.on hB (Nat.le_refl _)) (show j < n by omega)
          obtain ⟨b2, off2, x2, e2, hb2, hs2, g0, g1, g2⟩ := Ids.get (Hl.out.1.on hB (Nat.le_refl _)) hlt
          obtain ⟨rfl, rfl⟩ : b = b1 ∧ off = off1 := by injection e1 with e; injection e with a a'; exact ⟨a, a'⟩
          obtain ⟨rfl, rfl⟩ : b = b2 ∧ off = off2 := by injection e2 with e; injection e with a a'; exact ⟨a, a'⟩
          obtain rfl : x = x2 := Option.some.inj (Hx.out.symm.trans hs2)
          have hap : Apart y x := by
            have hj1 := (List.getElem?_eq_some_iff.1 hs1)
            have hk1 := (List.getElem?_eq_some_iff.1 hs2)
            obtain ⟨a1, rfl⟩ := hj1
            obtain ⟨a2, rfl⟩ := hk1
            exact List.pairwise_iff_getElem.1 Hl.out.2.2 j k a1 a2 hlj
          have t1 := eql_no hap
          have hjn : j < n := by omega
          clear hap hs1 hs2 e1 e2 hb1 hb2
          go_wp2_with fail
          go_still_tail 8, (by kernel_rfl)
          change wpList _ _ _ _ _ wr.drew
          go_wp2_with fail
          go_roundw
          case rel => exact ⟨j + 1, by omega, by go_num, hB.drew⟩
          case measure => simp [intOf]; omega
        · obtain rfl : j = k := by omega
          go_wp2_with fail
          go_roundw
          case rel => exact ⟨j + 1, by omega, by go_num, hB⟩
          case measure => simp [intOf]; omega
    · obtain rfl : k = n := by omega
      go_wp2_with fail
      go_ret
      exact ⟨rfl, hB⟩
end Go.Proofs.YtafeadplmcoilaaDoor
