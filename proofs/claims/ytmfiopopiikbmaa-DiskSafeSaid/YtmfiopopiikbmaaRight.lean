/-
  moultref04.Right: its contract.
-/
import Derived.Test.YtmfiopopiikbmaaFiles
namespace Go.Proofs.Ytmfiopopiikbmaa
open Go.RowKit

theorem mem_of_take {α : Type} {l : List α} {p : α → Prop} {n : Nat} (hl : l.length = n) (h : ∀ i x, i < n → l[i]? = some x → p x) : ∀ x ∈ l, p x := fun x hx => by
  obtain ⟨i, hi, rfl⟩ := List.mem_iff_getElem.1 hx
  exact h i _ (by omega) (List.getElem?_eq_getElem hi)

theorem used_held {w W : World} {d : DiskP} {A : Option Addr} {n c : Nat} {B : Option Addr} {m k : Nat} (hS : Below w.heap.size w W) (h : DAt w d A n c B m k) (hs : Small d) :
    Calls Try.prog 26 #[.agg #[.slice A n c, .slice B m k, .int .i64 d.quota, .int .i64 d.fuse, .bool d.dead]] W fun e w' => e = .returned (.int .i64 (usedP d : Nat)) ∧ Below w.heap.size w w' :=
  (used_any (h.on hS) hs).mono fun _ _ ⟨he, hB⟩ => ⟨he, hS.trans (hB.mono hS.size)⟩

set_option maxRecDepth 100000 in
set_option maxHeartbeats 2000000 in
theorem right_any {w : World} {d : DiskP} {A : Option Addr} {n c : Nat} {B : Option Addr} {m k : Nat} (h : DAt w d A n c B m k) (hs : Small d) :
    Calls Try.prog 18 #[.agg #[.slice A n c, .slice B m k, .int .i64 d.quota, .int .i64 d.fuse, .bool d.dead]] w fun e w' => e = .returned (.bool (rightP d)) ∧ Below w.heap.size w w' := by
  have Hs := Lib.hid hs
  have hl := h.len
  have hn : n ≤ 1000 := by rw [← hl.1]; exact hs.files
  have hm : m ≤ 1000 := by rw [← hl.2]; exact hs.queue
  have Hl := Lib.hid hl
  obtain ⟨fs, hf, e1⟩ := h.files
  obtain ⟨os, ho, e2⟩ := h.queue
  have E := Lib.hid (⟨e1, e2⟩ : _ ∧ _)
  clear hl hs e1 e2
  go_enter Try.func18, Try.ntmps18
  go_wp2_with fail
  obtain ⟨z, hz⟩ : ∃ z, z = w.heap.size := ⟨_, rfl⟩
  obtain ⟨w0, hw0⟩ : ∃ w0, w0 = w.alloc (.cells #[.slice A n c, .slice B m k, .int .i64 d.quota, .int .i64 d.fuse, .bool d.dead] 25) := ⟨_, rfl⟩
  have hB0 : Below w.heap.size w w0 := by rw [hw0]; exact (Below.refl _ _).alloc (Nat.le_refl _) _
  have hzc : w0.heap[z]? = some (.cells #[.slice A n c, .slice B m k, .int .i64 d.quota, .int .i64 d.fuse, .bool d.dead] 25 (0, 0)) := by rw [hw0, hz]; exact World.alloc_heap_new w _
  have hzl : z < w0.heap.size := by rw [hw0, hz]; simp
  have hf0 := hf.on hB0 hB0.size
  have ho0 := ho.on hB0 hB0.size
  have H0 := Lib.hid (h.on hB0)
  rw [← hw0, ← hz]
  have HB0 := Lib.hid hB0
  have Hzc := Lib.hid hzc
  clear hw0 hz hf ho h hB0 hzc
  go_loopw [3] (fun i wr => ∃ j : Nat, j ≤ n ∧ i = .int .i64 j ∧ Below w0.heap.size w0 wr ∧ ∀ i f, i < j → d.files[i]? = some f → f.name ≠ ByteArray.empty ∧ ∀ g, 0 < i → d.files[i - 1]? = some g → lessL g.name f.name = true) (fun i _ => n - (intOf i).toNat)
  case atStart => exact ⟨0, Nat.zero_le _, rfl, Below.refl _ _, fun i f h => by omega⟩
  case round =>
    obtain ⟨j, hj, rfl, hB, ht⟩ := hrel
    have Ht := Lib.hid ht
    obtain ⟨⟨k0, k1, k2, k3, k4⟩, _⟩ := box5 ((hB.block z hzl).trans Hzc.out)
    clear ht
    by_cases hlt : j < n
    · obtain ⟨b, off, f, rfl, hbl, hfj, h0, _, _⟩ := (hf0.on hB hB.size).at_ hlt
      have hj2 : (0 : Int) ≤ (j : Int) := by omega
      have hj3 : (j : Int) < (n : Int) := by omega
      have hl1 : d.files[j]? = some f.pure := by rw [← E.out.1, List.getElem?_map, hfj]; rfl
      by_cases he : f.name = ByteArray.empty
      · have t1 : f.name.toList = [] := (nil_name _).2 he
        have t2 : f.name.toList.isEmpty = true := by rw [t1]; rfl
        have t3 : (f.name.toList == []) = true := by rw [t1]; rfl
        have He := Lib.hid (right_rise (d := d) (fun hr => (hr j _ hl1).1 he))
        clear hl1 hfj he
        go_wp2_with fail
        go_quiet (fail)
        go_wp2_with fail
        go_ret
        exact ⟨by rw [He.out]; rfl, HB0.out.trans ((below_drewN hB _).mono HB0.out.size)⟩
      · have t1 : ¬ f.name.toList = [] := fun e => he ((nil_name _).1 e)
        have t2 : f.name.toList.isEmpty = false := by simpa using t1
        have t3 : (f.name.toList == []) = false := by simpa using t1
        by_cases hj0 : j = 0
        · have He := Lib.hid (show ∀ i f', i < j + 1 → d.files[i]? = some f' → f'.name ≠ ByteArray.empty ∧ ∀ g, 0 < i → d.files[i - 1]? = some g → lessL g.name f'.name = true from fun i f' hi hf' => by
            obtain rfl : i = j := by omega
            rw [hl1] at hf'
            cases hf'
            exact ⟨he, fun g h => by omega⟩)
          have t4 : decide ((0 : Int) < (j : Int)) = false := by simp; omega
          have t6 : decide (0 < j) = false := by simp; omega
          clear hl1 hfj he hj0
          go_wp2_with fail
          go_quiet (fail)
          go_wp2_with fail
          go_roundw
          case rel => exact ⟨j + 1, by omega, by go_num, below_drewN hB _, He.out⟩
          case measure => simp [intOf]; omega
        · obtain ⟨p, hp⟩ : ∃ p : Nat, (j : Int) - 1 = (p : Int) := ⟨j - 1, by omega⟩
          have hpn : p < n := by omega
          obtain ⟨b', off', g, e, hbl', hgp, g0, _, _⟩ := (hf0.on hB hB.size).at_ hpn
          cases e
          have hp2 : (0 : Int) ≤ (p : Int) := by omega
          have hp3 : (p : Int) < (n : Int) := by omega
          have hl2 : d.files[j - 1]? = some g.pure := by rw [show j - 1 = p by omega, ← E.out.1, List.getElem?_map, hgp]; rfl
          have t4 : decide ((0 : Int) < (j : Int)) = true := by simp; omega
          have t6 : decide (0 < j) = true := by simp; omega
          have t5 : (0 : Int) < (j : Int) := by omega
          by_cases hls : lessL g.name f.name = true
          · have hls' : Op.bytesLess g.name.toList f.name.toList = true := hls
            have He := Lib.hid (show ∀ i f', i < j + 1 → d.files[i]? = some f' → f'.name ≠ ByteArray.empty ∧ ∀ g, 0 < i → d.files[i - 1]? = some g → lessL g.name f'.name = true from fun i f' hi hf' => by
              by_cases hij : i = j
              · subst hij
                rw [hl1] at hf'
                cases hf'
                refine ⟨he, fun g' _ hg' => ?_⟩
                rw [hl2] at hg'
                cases hg'
                exact hls
              · exact Ht.out i f' (by omega) hf')
            clear hl1 hl2 hfj hgp he hj0 hls
            go_wp2_with fail
            go_quiet (fail)
            go_wp2_with fail
            go_roundw
            case rel => exact ⟨j + 1, by omega, by go_num, below_drewN hB _, He.out⟩
            case measure => simp [intOf]; omega
          · have hls' : Op.bytesLess g.name.toList f.name.toList = false := by simpa [lessL] using hls
            have He := Lib.hid (right_rise (d := d) (fun hr => hls ((hr j _ hl1).2 _ (by omega) hl2)))
            clear hl1 hl2 hfj hgp he hj0 hls
            go_wp2_with fail
            go_quiet (fail)
            go_wp2_with fail
            go_ret
            exact ⟨by rw [He.out]; rfl, HB0.out.trans ((below_drewN hB _).mono HB0.out.size)⟩
    · obtain rfl : j = n := by omega
      have Hrise := Lib.hid (show RiseP d.files from fun i f hf => Ht.out i f (by have h1 := (List.getElem?_eq_some_iff.1 hf).1; rw [Hl.out.1] at h1; exact h1) hf)
      obtain ⟨wL, hwL⟩ : ∃ wL, wL = wr := ⟨_, rfl⟩
      rw [← hwL] at k0 k1 k2 k3 k4 hB ⊢
      clear hwL
      have hszL := hB.size
      go_wp2_with fail
      go_loopw [4] (fun i wr => ∃ t : Nat, t ≤ m ∧ i = .int .i64 t ∧ Below wL.heap.size wL wr ∧ ∀ i o, i < t → d.queue[i]? = some o → fineP o = true) (fun i _ => m - (intOf i).toNat)
      case atStart => exact ⟨0, Nat.zero_le _, rfl, Below.refl _ _, fun i o h => by omega⟩
      case round =>
        obtain ⟨t, ht, rfl, hB2, hq⟩ := hrel
        have Hq := Lib.hid hq
        have hB3 := hB.trans (hB2.mono hszL)
        obtain ⟨⟨k0, k1, k2, k3, k4⟩, _⟩ := box5 ((hB3.block z hzl).trans Hzc.out)
        clear hq
        by_cases hlt2 : t < m
        · obtain ⟨b, off, o, rfl, hbl, hot, o0, o1, o2, o3, hok, hk0, hk1⟩ := (ho0.on hB3 hB3.size).at_ hlt2
          have hl1 : d.queue[t]? = some o.pure := by rw [← E.out.2, List.getElem?_map, hot]; rfl
          have hsz3 := hB3.size
          go_wp2_with fail
          refine (fine_any o.pure _ _ ⟨hk0, hk1⟩).mono ?_
          rintro e w5 ⟨rfl, hb5⟩
          obtain ⟨bv, hbv⟩ : ∃ bv, fineP o.pure = bv := ⟨_, rfl⟩
          rw [hbv]
          cases bv
          · have He := Lib.hid (right_fine (List.mem_of_getElem? hl1) hbv)
            clear hbv hl1 hot
            go_wp2_with fail
            go_ret
            exact ⟨by rw [He.out]; rfl, HB0.out.trans ((hB3.trans (hb5.mono hsz3)).mono HB0.out.size)⟩
          · have He := Lib.hid (show ∀ i o', i < t + 1 → d.queue[i]? = some o' → fineP o' = true from fun i o' hi ho' => by
              by_cases hij : i = t
              · subst hij
                rw [hl1] at ho'
                cases ho'
                exact hbv
              · exact Hq.out i o' (by omega) ho')
            clear hbv hl1 hot
            go_wp2_with fail
            go_roundw
            case rel => exact ⟨t + 1, by omega, by go_num, hB2.trans (hb5.mono hB2.size), He.out⟩
            case measure => simp [intOf]; omega
        · obtain rfl : t = m := by omega
          have He := Lib.hid (right_rest Hrise.out (mem_of_take Hl.out.2 Hq.out))
          have Hcells := Lib.hid (show ∀ W, Below w0.heap.size w0 W → Below w0.heap.size w0 W ∧ W.cell? ⟨z, 0, none⟩ = some (.slice A j c) ∧ W.cell? ⟨z, 1, none⟩ = some (.slice B t k) ∧ W.cell? ⟨z, 2, none⟩ = some (.int .i64 d.quota) ∧ W.cell? ⟨z, 3, none⟩ = some (.int .i64 d.fuse) ∧ W.cell? ⟨z, 4, none⟩ = some (.bool d.dead) from fun W hW => by
            obtain ⟨⟨a0, a1, a2, a3, a4⟩, _⟩ := box5 ((hW.block z hzl).trans Hzc.out)
            exact ⟨hW, a0, a1, a2, a3, a4⟩)
          rw [Hl.out.2] at He
          by_cases u1 : t ≤ 400
          · have v1 : decide ((t : Int) ≤ 400) = true := by simp; omega
            have v1' : decide (t ≤ 400) = true := by simpa using u1
            by_cases u2 : 0 ≤ d.quota
            · have v2 : decide (0 ≤ d.quota) = true := by simpa using u2
              by_cases u3 : 0 ≤ d.fuse
              · have v3 : decide (0 ≤ d.fuse) = true := by simpa using u3
                go_wp2_with fail
                go_region_held3 (fun W => Below w0.heap.size w0 W ∧ W.cell? ⟨z, 0, none⟩ = some (.slice A j c) ∧ W.cell? ⟨z, 1, none⟩ = some (.slice B t k) ∧ W.cell? ⟨z, 2, none⟩ = some (.int .i64 d.quota) ∧ W.cell? ⟨z, 3, none⟩ = some (.int .i64 d.fuse) ∧ W.cell? ⟨z, 4, none⟩ = some (.bool d.dead))
                  (exact Hcells.out _ (by first | assumption | exact hB3 | exact hB3.drew | (exact And.left (by assumption))))
                  (first
                  | (go_at_call 26; (with_reducible refine (used_held (w := w0) hB3.drew H0.out Hs.out).mono ?_); rintro e w9 ⟨rfl, hS9⟩))
                all_goals
                  go_wp2_with fail
                  go_ret
                  exact ⟨ret_bool (by rw [He.out]; simp [*]), HB0.out.trans ((by first | assumption | exact hB3.drew | exact And.left (by assumption) : Below w0.heap.size w0 _).mono HB0.out.size)⟩
              · have v3 : decide (0 ≤ d.fuse) = false := by simp; omega
                go_wp2_with fail
                go_quiet (fail)
                go_wp2_with fail
                go_ret
                exact ⟨ret_bool (by rw [He.out]; simp [*]), HB0.out.trans ((below_drewN hB3 _).mono HB0.out.size)⟩
            · have v2 : decide (0 ≤ d.quota) = false := by simp; omega
              go_wp2_with fail
              go_quiet (fail)
              go_wp2_with fail
              go_ret
              exact ⟨ret_bool (by rw [He.out]; simp [*]), HB0.out.trans ((below_drewN hB3 _).mono HB0.out.size)⟩
          · have v1 : decide ((t : Int) ≤ 400) = false := by simp; omega
            have v1' : decide (t ≤ 400) = false := by simp; omega
            go_wp2_with fail
            go_quiet (fail)
            go_wp2_with fail
            go_ret
            exact ⟨ret_bool (by rw [He.out]; simp [*]), HB0.out.trans ((below_drewN hB3 _).mono HB0.out.size)⟩

end Go.Proofs.Ytmfiopopiikbmaa
