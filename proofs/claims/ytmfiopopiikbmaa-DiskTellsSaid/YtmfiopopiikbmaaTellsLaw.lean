/-
  DiskTells: it returns true.
-/
import Derived.Test.YtmfiopopiikbmaaLawKit2
import Derived.Test.YtmfiopopiikbmaaOpenD
namespace Go.Proofs.Ytmfiopopiikbmaa
open Go.RowKit Go.Maps

theorem great_dec {w : World} {D : DiskP} {A : Option Addr} {n c : Nat} {B : Option Addr} {m k : Nat} (h : DAt w D A n c B m k) :
    Calls Try.prog 8 #[.agg #[.slice A n c, .slice B m k, .int .i64 D.quota, .int .i64 D.fuse, .bool D.dead]] w fun e w' => e = .returned (.bool (greatP D)) ∧ Below w.heap.size w w' := by
  obtain ⟨fl, qu, q, u, dd⟩ := D
  refine (great_any h).mono ?_
  rintro e w' ⟨⟨b, rfl, hb⟩, hB⟩
  refine ⟨?_, hB⟩
  generalize greatP ⟨fl, qu, q, u, dd⟩ = x at hb ⊢
  rw [show b = x by rw [Bool.eq_iff_iff, hb]]
theorem says_val {p : Prop} {e : Ending} {b : Bool} (h : Says p e) (hb : b = true ↔ p) : e = .returned (.bool b) := by
  obtain ⟨x, rfl, hx⟩ := h
  have : x = b := by rw [Bool.eq_iff_iff, hx, hb]
  rw [this]
theorem ref_do_step {w : World} {D D' : DiskP} {er : Int} {j : Nat} {A : Option Addr} {n c : Nat} {B : Option Addr} {m k : Nat} (o : OpM) (h : DAt w D A n c B m k) (hr : Run j D) (hj : j ≤ 1000) (ho : o.p.Ok w w.heap.size) (hk : 0 ≤ o.kind ∧ o.kind ≤ 255) (hn : o.p.n ≤ 1048576)
    (e : doP D o.pure = (D', er)) :
    Calls Try.prog 11 #[.agg #[.slice A n c, .slice B m k, .int .i64 D.quota, .int .i64 D.fuse, .bool D.dead], .agg #[.int .u8 o.kind, .string o.name, .string o.to, .slice o.p.A o.p.n o.p.c]] w fun e w' =>
      (∃ A' n' c' B' m' k', e = .returned (.tuple #[.agg #[.slice A' n' c', .slice B' m' k', .int .i64 D'.quota, .int .i64 D'.fuse, .bool D'.dead], .int .i64 er]) ∧ DAt w' D' A' n' c' B' m' k') ∧ Below w.heap.size w w' := by
  obtain ⟨fl, qu, q, u, dd⟩ := D
  have h1 := do_any o h (hr.small hj) hr.fuse ho hk hn
  rw [e] at h1
  exact h1
theorem ref_sync_step {w : World} {D D' : DiskP} {er : Int} {j : Nat} {A : Option Addr} {n c : Nat} {B : Option Addr} {m k : Nat} (h : DAt w D A n c B m k) (hr : Run j D) (hj : j ≤ 1000) (e : syncP D = (D', er)) :
    Calls Try.prog 13 #[.agg #[.slice A n c, .slice B m k, .int .i64 D.quota, .int .i64 D.fuse, .bool D.dead]] w fun e w' =>
      (∃ A' n' c' B' m' k', e = .returned (.tuple #[.agg #[.slice A' n' c', .slice B' m' k', .int .i64 D'.quota, .int .i64 D'.fuse, .bool D'.dead], .int .i64 er]) ∧ DAt w' D' A' n' c' B' m' k') ∧ Below w.heap.size w w' := by
  obtain ⟨fl, qu, q, u, dd⟩ := D
  have h1 := sync_any h (hr.small hj) hr.fuse
  rw [e] at h1
  exact h1
theorem ref_read_step {w : World} {D : DiskP} {er : Int} {l : List Int} {j : Nat} {A : Option Addr} {n c : Nat} {B : Option Addr} {m k : Nat} (s : ByteArray) (h : DAt w D A n c B m k) (hr : Run j D) (hj : j ≤ 1000) (e : readP D s = (l, er)) :
    Calls Try.prog 15 #[.agg #[.slice A n c, .slice B m k, .int .i64 D.quota, .int .i64 D.fuse, .bool D.dead], .string s] w fun e w' =>
      (∃ A' n' c', e = .returned (.tuple #[.slice A' n' c', .int .i64 er]) ∧ n' ≤ c' ∧ Rd w' w'.heap.size .u8 A' n' l) ∧ Below w.heap.size w w' := by
  have h1 := read_any s h (hr.small hj)
  rw [e] at h1
  exact h1
theorem same_both {w : World} {D : DiskP} {A : Option Addr} {n c : Nat} {B : Option Addr} {m k : Nat} {A' : Option Addr} {n' c' : Nat} {B' : Option Addr} {m' k' : Nat} (h : DAt w D A n c B m k) (h' : DAt w D A' n' c' B' m' k') (hf : D.files.length ≤ 100000) (hq : D.queue.length ≤ 100000) :
    Calls Try.prog 16 #[.agg #[.slice A n c, .slice B m k, .int .i64 D.quota, .int .i64 D.fuse, .bool D.dead], .agg #[.slice A' n' c', .slice B' m' k', .int .i64 D.quota, .int .i64 D.fuse, .bool D.dead]] w fun e w' =>
      e = .returned (.bool true) ∧ Below w.heap.size w w' := by
  obtain ⟨fl, qu, q, u, dd⟩ := D
  have h1 := h.len
  have h2 := h'.len
  refine (same_disk h h' (by omega) (by omega) (by omega) (by omega)).mono ?_
  rintro e w' ⟨⟨b, rfl, hb⟩, hB⟩
  obtain rfl : b = true := hb.2 rfl
  exact ⟨rfl, hB⟩
theorem cells4 {w : World} {z : Nat} {t : TypeId} {a b c d : Value} (h : w.heap[z]? = some (.cells #[a, b, c, d] t (0, 0))) : w.cell? ⟨z, 0, none⟩ = some a ∧ w.cell? ⟨z, 1, none⟩ = some b ∧ w.cell? ⟨z, 2, none⟩ = some c ∧ w.cell? ⟨z, 3, none⟩ = some d := by
  refine ⟨?_, ?_, ?_, ?_⟩ <;> (rw [cell_of_row _ _ _ _ _ _ h]; simp)
theorem Run.now_len {k : Nat} {D : DiskP} (h : Run k D) (hk : k ≤ 1000) : (nowP D).length ≤ 2000 := (now_small (h.small hk)).1
theorem sync_len {k : Nat} {D : DiskP} (h : Run k D) (hk : k ≤ 1000) : (syncP D).1.files.length ≤ 100000 ∧ (syncP D).1.queue.length ≤ 100000 := by
  have h1 := h.files
  have h2 := h.queue
  have h3 := h.now_len hk
  unfold syncP
  split
  · exact ⟨by simp only; omega, by simp only; omega⟩
  split
  · exact ⟨by simp only; omega, by simp only; omega⟩
  · obtain ⟨a, b, _, _⟩ := burnt_same { D with files := nowP D, queue := [] }
    exact ⟨by show (burntP _).files.length ≤ _; rw [a]; simp only; omega, by show (burntP _).queue.length ≤ _; rw [b]; simp⟩
theorem crash_len {k : Nat} {D : DiskP} (h : Run k D) (hk : k ≤ 1000) (keep torn : Int) : (crashP D keep torn).files.length ≤ 100000 ∧ (crashP D keep torn).queue.length ≤ 100000 := by
  have h1 := h.files
  have h2 := h.queue
  cases hr : rightP D with
  | false =>
    rw [crash_wrong hr]
    exact ⟨by omega, by omega⟩
  | true =>
    rw [crash_right hr]
    refine ⟨?_, by simp⟩
    have h3 := all_length D.files (D.queue.take (cutP keep D.queue.length))
    have h4 : (D.queue.take (cutP keep D.queue.length)).length ≤ D.queue.length := by rw [List.length_take]; exact Nat.min_le_right _ _
    show (leftP D _ torn).length ≤ _
    unfold leftP
    split
    · split
      · refine Nat.le_trans (done_length _ _) ?_
        omega
      · omega
    · omega

theorem ref_crash_step {w : World} {D : DiskP} {j : Nat} {A : Option Addr} {n c : Nat} {B : Option Addr} {m k : Nat} (keep torn : Int) (h : DAt w D A n c B m k) (hr : Run j D) (hj : j ≤ 1000) :
    Calls Try.prog 21 #[.agg #[.slice A n c, .slice B m k, .int .i64 D.quota, .int .i64 D.fuse, .bool D.dead], .int .i64 keep, .int .i64 torn] w fun e w' => DOne (crashP D keep torn) e w' ∧ Below w.heap.size w w' := by
  obtain ⟨fl, qu, q, u, dd⟩ := D
  exact crash_any keep torn h (hr.small hj)
theorem at_none (w : World) (q u : Int) (dd : Bool) : DAt w ⟨[], [], q, u, dd⟩ none 0 0 none 0 0 := ⟨Nat.le_refl _, Nat.le_refl _, ⟨[], Fs.nil, rfl⟩, ⟨[], Os.nil, rfl⟩⟩

set_option maxRecDepth 100000 in
set_option maxHeartbeats 8000000 in
theorem tells_law (hW : ∀ w : World, Calls Try.prog 9 #[] w fun e w' => e = .returned (.bool true) ∧ Below w.heap.size w w') {w : World} {D E : DiskP} {A : Option Addr} {n c : Nat} {B : Option Addr} {m k : Nat} {A' : Option Addr} {n' c' : Nat} {B' : Option Addr} {m' k' : Nat} {o : OpM} {keep torn : Int} {s : ByteArray}
    (h : DAt w D A n c B m k) (hn : Nms D) (hu : D.fuse ≤ 9223372036854775807) (h' : DAt w E A' n' c' B' m' k') (hn' : Nms E) (hu' : E.fuse ≤ 9223372036854775807) (ho : o.p.Ok w w.heap.size) (hk : 0 ≤ o.kind ∧ o.kind ≤ 255) (hs : o.name.size ≤ maxLen) (ht : o.to.size ≤ maxLen) (hsz : s.size ≤ maxLen) :
    Calls Try.prog 3 #[.agg #[.slice A n c, .slice B m k, .int .i64 D.quota, .int .i64 D.fuse, .bool D.dead], .agg #[.slice A' n' c', .slice B' m' k', .int .i64 E.quota, .int .i64 E.fuse, .bool E.dead], .agg #[.int .u8 o.kind, .string o.name, .string o.to, .slice o.p.A o.p.n o.p.c], .int .i64 keep, .int .i64 torn, .string s] w fun e w' => e = .returned (.bool true) ∧ Below w.heap.size w w' := by
  have HW := Lib.hid hW
  have Hn := Lib.hid (⟨hn, hu⟩ : _ ∧ _)
  have Hn' := Lib.hid (⟨hn', hu'⟩ : _ ∧ _)
  have Hk := Lib.hid hk
  have Hs := Lib.hid (⟨hs, ht, hsz⟩ : _ ∧ _ ∧ _)
  clear hn hu hn' hu' hk hs ht hsz hW
  go_enter Try.func3, Try.ntmps3
  go_upto_region 1 with fail
  obtain ⟨z6, hz6⟩ : ∃ z, z = w.heap.size := ⟨_, rfl⟩
  obtain ⟨wa, hwa⟩ : ∃ x, x = w.alloc (.cells #[.slice A n c, .slice B m k, .int .i64 D.quota, .int .i64 D.fuse, .bool D.dead] 25) := ⟨_, rfl⟩
  have hBa : Below w.heap.size w wa := by rw [hwa]; exact below_al (below_d0 w) _
  have x6 : DBox wa z6 D A n c B m k := by rw [hwa, hz6]; exact ⟨World.alloc_heap_new w _, h.on (below_al (below_d0 w) _)⟩
  obtain ⟨z7, hz7⟩ : ∃ z, z = wa.heap.size := ⟨_, rfl⟩
  obtain ⟨wb, hwb⟩ : ∃ x, x = wa.alloc (.cells #[.slice A' n' c', .slice B' m' k', .int .i64 E.quota, .int .i64 E.fuse, .bool E.dead] 25) := ⟨_, rfl⟩
  have hbb : Below wa.heap.size wa wb := by rw [hwb]; exact below_al (below_d0 wa) _
  have hBb : Below w.heap.size w wb := below_on hBa hbb
  have x7 : DBox wb z7 E A' n' c' B' m' k' := by rw [hwb, hz7]; exact ⟨World.alloc_heap_new wa _, (h'.on hBa).on (below_al (below_d0 wa) _)⟩
  replace x6 := x6.below hbb
  obtain ⟨z8, hz8⟩ : ∃ z, z = wb.heap.size := ⟨_, rfl⟩
  obtain ⟨wq, hwc⟩ : ∃ x, x = wb.alloc (.cells #[.int .u8 o.kind, .string o.name, .string o.to, .slice o.p.A o.p.n o.p.c] 28) := ⟨_, rfl⟩
  have hbc : Below wb.heap.size wb wq := by rw [hwc]; exact below_al (below_d0 wb) _
  have hBc : Below w.heap.size w wq := below_on hBb hbc
  have x8 : Box4 wq z8 o := by rw [hwc, hz8]; exact World.alloc_heap_new wb _
  replace x6 := x6.below hbc
  replace x7 := x7.below hbc
  have hp := ho.on hBc hBc.size
  have e7 : w.heap.size + 1 = z7 := by rw [hz7, hwa]; simp
  have e8 : w.heap.size + 1 + 1 = z8 := by rw [hz8, hwb, World.size_alloc, ← hz7, ← e7]
  have e9 : wq = ((w.alloc (.cells #[.slice A n c, .slice B m k, .int .i64 D.quota, .int .i64 D.fuse, .bool D.dead] 25)).alloc (.cells #[.slice A' n' c', .slice B' m' k', .int .i64 E.quota, .int .i64 E.fuse, .bool E.dead] 25)).alloc (.cells #[.int .u8 o.kind, .string o.name, .string o.to, .slice o.p.A o.p.n o.p.c] 28) := by rw [hwc, hwb, hwa]
  rw [← e9, e8, e7, ← hz6]
  clear e7 e8 e9 hwa hwb hwc hz6 hz7 hz8 hBa hBb hbb hbc h h' ho
  have X6 := Lib.hid (show ∀ W, Below wq.heap.size wq W → DBox W z6 D A n c B m k from fun W hW => x6.below hW)
  have X7 := Lib.hid (show ∀ W, Below wq.heap.size wq W → DBox W z7 E A' n' c' B' m' k' from fun W hW => x7.below hW)
  have X8 := Lib.hid (show ∀ W, Below wq.heap.size wq W → Box4 W z8 o from fun W hW => x8.below hW)
  have HP := Lib.hid (show ∀ W, Below wq.heap.size wq W → o.p.Ok W W.heap.size from fun W hW => hp.on hW hW.size)
  have HB := Lib.hid hBc
  clear x6 x7 x8 hp hBc
  obtain ⟨k0, k1, k2, k3, k4⟩ := (X6.out _ (below_d0 wq)).cells
  go_wp2_with fail
  refine (great_dec (X6.out _ (below_d0 wq)).dat).mono ?_
  rintro e w1 ⟨rfl, hb1⟩
  have kb1 : Below wq.heap.size wq w1 := hb1
  clear hb1 k0 k1 k2 k3 k4
  obtain ⟨bg, hbg⟩ : ∃ bg, greatP D = bg := ⟨_, rfl⟩
  rw [hbg]
  have Hbg := Lib.hid hbg
  clear hbg
  cases bg
  case true =>
    go_wp2_with fail
    refine (HW.out w1).mono ?_
    rintro e wz ⟨rfl, hbz⟩
    go_wp2_with fail
    go_ret
    exact ⟨rfl, HB.out.trans ((below_on kb1 hbz).mono HB.out.size)⟩
  case false =>
    obtain ⟨k0, k1, k2, k3, k4⟩ := (X7.out _ kb1).cells
    go_wp2_with fail
    refine (great_dec (X7.out _ kb1).dat).mono ?_
    rintro e w1' ⟨rfl, hb1⟩
    have kb := below_on kb1 hb1
    clear hb1 k0 k1 k2 k3 k4 kb1
    obtain ⟨bv, hbv⟩ : ∃ bv, greatP E = bv := ⟨_, rfl⟩
    rw [hbv]
    have Hbv := Lib.hid hbv
    clear hbv
    obtain ⟨⟨l0, l1, l2, l3⟩, _⟩ := box4 (X8.out _ kb)
    cases bv
    case true =>
      go_wp2_with fail
      refine (HW.out w1').mono ?_
      rintro e wz ⟨rfl, hbz⟩
      go_wp2_with fail
      go_ret
      exact ⟨rfl, HB.out.trans ((below_on kb hbz).mono HB.out.size)⟩
    case false =>
      by_cases ha : (1000 : Int) < (o.p.n : Int)
      · have ta : decide ((1000 : Int) < (o.p.n : Int)) = true := by simpa using ha
        go_wp2_with fail
        refine (HW.out w1').mono ?_
        rintro e wz ⟨rfl, hbz⟩
        go_wp2_with fail
        go_ret
        exact ⟨rfl, HB.out.trans ((below_on kb hbz).mono HB.out.size)⟩
      have ta : decide ((1000 : Int) < (o.p.n : Int)) = false := by simpa using ha
      have hlen : ¬ (1000 : Int) < (o.p.n : Int) := ha
      obtain ⟨w1, hw1⟩ : ∃ x, x = w1' := ⟨_, rfl⟩
      rw [← hw1] at kb l0 l1 l2 l3 ⊢
      clear hw1
      have hg := Hbg.out
      have hg' := Hbv.out
      clear Hbg Hbv
      have HR := Lib.hid (Run.of hg Hn.out.1 Hn.out.2)
      have HR' := Lib.hid (Run.of hg' Hn'.out.1 Hn'.out.2)
      have hpn : o.p.n ≤ 1000 := by omega
      have hpn2 : o.p.n ≤ 1048576 := by omega
      clear hg hg' hlen
      obtain ⟨D1, e1, hE1⟩ : ∃ D1 e1, doP D o.pure = (D1, e1) := ⟨_, _, rfl⟩
      obtain ⟨D2, e2, hE2⟩ : ∃ D2 e2, syncP D = (D2, e2) := ⟨_, _, rfl⟩
      obtain ⟨l3, e3, hE3⟩ : ∃ l3 e3, readP D s = (l3, e3) := ⟨_, _, rfl⟩
      have hol : o.pure.bytes.length = o.p.n := (HP.out _ (below_d0 _)).rd.1
      have HR1 := Lib.hid (show Run 61 D1 from HR.out.step hE1 (by rw [hol]; exact hpn) ⟨Hs.out.1, Hs.out.2.1⟩)
      have HL2 := Lib.hid (show D2.files.length ≤ 100000 ∧ D2.queue.length ≤ 100000 by
        have h1 := sync_len HR.out (by omega)
        rw [hE2] at h1
        exact h1)
      have HE := Lib.hid (⟨hE1, hE2, hE3⟩ : _ ∧ _ ∧ _)
      clear hE1 hE2 hE3 hol
      obtain ⟨k0, k1, k2, k3, k4⟩ := (X6.out _ kb).cells
      obtain ⟨⟨l0, l1, l2, l3'⟩, _⟩ := box4 (X8.out _ kb)
      go_wp2_with fail
      with_reducible refine Calls.mono (do_step (D' := D1) (er := e1) o (X6.out _ kb).dat HR.out (by omega) (HP.out _ kb) Hk.out hpn2 Hs.out.1 HE.out.1) ?_
      rintro e w2 ⟨⟨Aa, na, ca, Ba, ma, ka, rfl, g⟩, hb⟩
      replace kb := below_on kb hb
      clear hb k0 k1 k2 k3 k4 l0 l1 l2 l3'
      go_upto_region 4 with fail
      obtain ⟨z13, hz⟩ : ∃ z, z = w2.heap.size := ⟨_, rfl⟩
      obtain ⟨w3, hw⟩ : ∃ x, x = fresh5 w2 (.slice Aa na ca) (.slice Ba ma ka) (.int .i64 D1.quota) (.int .i64 D1.fuse) (.bool D1.dead) := ⟨_, rfl⟩
      have hb : Below w2.heap.size w2 w3 := by rw [hw]; exact fresh5_below _ _ _ _ _ _
      have x13 : DBox w3 z13 D1 Aa na ca Ba ma ka := by rw [hw, hz]; exact fresh5_box g
      have hw2 : w3 = w2.alloc (.cells #[.slice Aa na ca, .slice Ba ma ka, .int .i64 D1.quota, .int .i64 D1.fuse, .bool D1.dead] 25) := hw
      rw [← hw2, ← hz]
      replace kb := below_on kb hb
      clear hb hw hw2 hz g
      obtain ⟨k0, k1, k2, k3, k4⟩ := (X6.out _ kb).cells
      obtain ⟨⟨l0, l1, l2, l3'⟩, _⟩ := box4 (X8.out _ kb)
      go_wp2_with fail
      with_reducible refine Calls.mono (ref_do_step (D' := D1) (er := e1) o (X6.out _ kb).dat HR.out (by omega) (HP.out _ kb) Hk.out hpn2 HE.out.1) ?_
      rintro e w4 ⟨⟨Ap, np, cp, Bp, mp, kp, rfl, g⟩, hb⟩
      replace x13 := x13.below hb
      replace kb := below_on kb hb
      clear hb k0 k1 k2 k3 k4 l0 l1 l2 l3'
      go_upto_region 5 with fail
      obtain ⟨z15, hz⟩ : ∃ z, z = w4.heap.size := ⟨_, rfl⟩
      obtain ⟨w5, hw⟩ : ∃ x, x = fresh5 w4 (.slice Ap np cp) (.slice Bp mp kp) (.int .i64 D1.quota) (.int .i64 D1.fuse) (.bool D1.dead) := ⟨_, rfl⟩
      have hb : Below w4.heap.size w4 w5 := by rw [hw]; exact fresh5_below _ _ _ _ _ _
      have x15 : DBox w5 z15 D1 Ap np cp Bp mp kp := by rw [hw, hz]; exact fresh5_box g
      have hw2 : w5 = w4.alloc (.cells #[.slice Ap np cp, .slice Bp mp kp, .int .i64 D1.quota, .int .i64 D1.fuse, .bool D1.dead] 25) := hw
      rw [← hw2, ← hz]
      replace x13 := x13.below hb
      replace kb := below_on kb hb
      clear hb hw hw2 hz g
      obtain ⟨k0, k1, k2, k3, k4⟩ := (X6.out _ kb).cells
      obtain ⟨⟨l0, l1, l2, l3'⟩, _⟩ := box4 (X8.out _ kb)
      go_wp2_with fail
      with_reducible refine Calls.mono (sync_step (D' := D2) (er := e2) (X6.out _ kb).dat HR.out (by omega) HE.out.2.1) ?_
      rintro e w6 ⟨⟨Ac, nc, cc, Bc, mc, kc, rfl, g⟩, hb⟩
      replace x13 := x13.below hb
      replace x15 := x15.below hb
      replace kb := below_on kb hb
      clear hb k0 k1 k2 k3 k4 l0 l1 l2 l3'
      go_upto_region 6 with fail
      obtain ⟨z17, hz⟩ : ∃ z, z = w6.heap.size := ⟨_, rfl⟩
      obtain ⟨w7, hw⟩ : ∃ x, x = fresh5 w6 (.slice Ac nc cc) (.slice Bc mc kc) (.int .i64 D2.quota) (.int .i64 D2.fuse) (.bool D2.dead) := ⟨_, rfl⟩
      have hb : Below w6.heap.size w6 w7 := by rw [hw]; exact fresh5_below _ _ _ _ _ _
      have x17 : DBox w7 z17 D2 Ac nc cc Bc mc kc := by rw [hw, hz]; exact fresh5_box g
      have hw2 : w7 = w6.alloc (.cells #[.slice Ac nc cc, .slice Bc mc kc, .int .i64 D2.quota, .int .i64 D2.fuse, .bool D2.dead] 25) := hw
      rw [← hw2, ← hz]
      replace x13 := x13.below hb
      replace x15 := x15.below hb
      replace kb := below_on kb hb
      clear hb hw hw2 hz g
      obtain ⟨k0, k1, k2, k3, k4⟩ := (X6.out _ kb).cells
      obtain ⟨⟨l0, l1, l2, l3'⟩, _⟩ := box4 (X8.out _ kb)
      go_wp2_with fail
      with_reducible refine Calls.mono (ref_sync_step (D' := D2) (er := e2) (X6.out _ kb).dat HR.out (by omega) HE.out.2.1) ?_
      rintro e w8 ⟨⟨Ad, nd, cd, Bd, md, kd, rfl, g⟩, hb⟩
      replace x13 := x13.below hb
      replace x15 := x15.below hb
      replace x17 := x17.below hb
      replace kb := below_on kb hb
      clear hb k0 k1 k2 k3 k4 l0 l1 l2 l3'
      go_upto_region 7 with fail
      obtain ⟨z19, hz⟩ : ∃ z, z = w8.heap.size := ⟨_, rfl⟩
      obtain ⟨w9, hw⟩ : ∃ x, x = fresh5 w8 (.slice Ad nd cd) (.slice Bd md kd) (.int .i64 D2.quota) (.int .i64 D2.fuse) (.bool D2.dead) := ⟨_, rfl⟩
      have hb : Below w8.heap.size w8 w9 := by rw [hw]; exact fresh5_below _ _ _ _ _ _
      have x19 : DBox w9 z19 D2 Ad nd cd Bd md kd := by rw [hw, hz]; exact fresh5_box g
      have hw2 : w9 = w8.alloc (.cells #[.slice Ad nd cd, .slice Bd md kd, .int .i64 D2.quota, .int .i64 D2.fuse, .bool D2.dead] 25) := hw
      rw [← hw2, ← hz]
      replace x13 := x13.below hb
      replace x15 := x15.below hb
      replace x17 := x17.below hb
      replace kb := below_on kb hb
      clear hb hw hw2 hz g
      obtain ⟨k0, k1, k2, k3, k4⟩ := (X6.out _ kb).cells
      obtain ⟨⟨l0, l1, l2, l3'⟩, _⟩ := box4 (X8.out _ kb)
      go_wp2_with fail
      with_reducible refine Calls.mono (read_step (er := e3) (l := l3) s (X6.out _ kb).dat HR.out (by omega) Hs.out.2.2 HE.out.2.2) ?_
      rintro e w10 ⟨⟨Ae, ne, ce, rfl, hce, re⟩, hb⟩
      replace x13 := x13.below hb
      replace x15 := x15.below hb
      replace x17 := x17.below hb
      replace x19 := x19.below hb
      replace kb := below_on kb hb
      clear hb k0 k1 k2 k3 k4 l0 l1 l2 l3'
      obtain ⟨k0, k1, k2, k3, k4⟩ := (X6.out _ kb).cells
      obtain ⟨⟨l0, l1, l2, l3'⟩, _⟩ := box4 (X8.out _ kb)
      go_wp2_with fail
      with_reducible refine Calls.mono (ref_read_step (er := e3) (l := l3) s (X6.out _ kb).dat HR.out (by omega) HE.out.2.2) ?_
      rintro e w11 ⟨⟨Af, nf, cf, rfl, hcf, rf⟩, hb⟩
      replace x13 := x13.below hb
      replace x15 := x15.below hb
      replace x17 := x17.below hb
      replace x19 := x19.below hb
      replace re := re.on hb hb.size
      replace kb := below_on kb hb
      clear hb k0 k1 k2 k3 k4 l0 l1 l2 l3'
      go_upto_region 9 with fail
      have X13 := Lib.hid (show ∀ W, Below w11.heap.size w11 W → DBox W z13 D1 Aa na ca Ba ma ka from fun W hW => x13.below hW)
      have X15 := Lib.hid (show ∀ W, Below w11.heap.size w11 W → DBox W z15 D1 Ap np cp Bp mp kp from fun W hW => x15.below hW)
      have X17 := Lib.hid (show ∀ W, Below w11.heap.size w11 W → DBox W z17 D2 Ac nc cc Bc mc kc from fun W hW => x17.below hW)
      have X19 := Lib.hid (show ∀ W, Below w11.heap.size w11 W → DBox W z19 D2 Ad nd cd Bd md kd from fun W hW => x19.below hW)
      have Xe := Lib.hid (show ∀ W, Below w11.heap.size w11 W → Rd W W.heap.size .u8 Ae ne l3 from fun W hW => re.on hW hW.size)
      have Xf := Lib.hid (show ∀ W, Below w11.heap.size w11 W → Rd W W.heap.size .u8 Af nf l3 from fun W hW => rf.on hW hW.size)
      have Y6 := Lib.hid (show ∀ W, Below w11.heap.size w11 W → DBox W z6 D A n c B m k from fun W hW => X6.out W (below_on kb hW))
      have Y7 := Lib.hid (show ∀ W, Below w11.heap.size w11 W → DBox W z7 E A' n' c' B' m' k' from fun W hW => X7.out W (below_on kb hW))
      have HB2 := Lib.hid (HB.out.trans (kb.mono HB.out.size))
      clear x13 x15 x17 x19 re rf X6 X7 X8 HP HB kb hce hcf
      obtain ⟨bs, hbs⟩ : ∃ b : Bool, b = true ↔ D = E := by classical exact ⟨decide (D = E), by simp⟩
      have Hbs := Lib.hid hbs
      clear hbs
      obtain ⟨br, hbr⟩ : ∃ b : Bool, rightP D = b := ⟨_, rfl⟩
      have Hbr := Lib.hid hbr
      clear hbr
      go_cut [119] (fun s wx => s = .bool false ∧ Below w11.heap.size w11 wx)
      case first =>
        refine wp_region_held_drew (S := (fun W => Below w11.heap.size w11 W)) (by kernel_rfl) (below_dr (below_d0 _)) (fun hHeld => ?_)
        refine take_at (i := 0) (d := 72) (oi := ?o1) (v := ?v1) ?hi1 ?hd1 (by kernel_rfl) (by kernel_rfl) (by kernel_rfl) ?hw1 ?hy1 ?hq1 (by assumption) ?r1
        case hi1 => (simp only [List.getElem?_toArray, List.getElem?_cons_zero]; rfl)
        case hd1 => rfl
        case hw1 => rfl
        case hy1 => ((intro w hSw; (try dsimp only at hSw); have hcs := DBox.cells (X13.out _ hSw); obtain ⟨k0, k1, k2, k3, k4⟩ := hcs; go_simp) <;> (with_reducible rfl))
        case hq1 => exact fun _ _ _ h => h
        simp only [List.set_cons_succ, List.set_cons_zero]
        refine take_at (i := 1) (d := 73) (oi := ?o2) (v := ?v2) ?hi2 ?hd2 (by kernel_rfl) (by kernel_rfl) (by kernel_rfl) ?hw2 ?hy2 ?hq2 (by assumption) ?r2
        case hi2 => (simp only [List.getElem?_toArray, List.getElem?_cons_succ, List.getElem?_cons_zero]; rfl)
        case hd2 => rfl
        case hw2 => rfl
        case hy2 => ((intro w hSw; (try dsimp only at hSw); have hcs := DBox.cells (X15.out _ hSw); obtain ⟨k0, k1, k2, k3, k4⟩ := hcs; go_simp) <;> (with_reducible rfl))
        case hq2 => exact fun _ _ _ h => h
        simp only [List.set_cons_succ, List.set_cons_zero]
        refine call_at (i := 2) (d := 74) (oi := ?o3) (f := ?f3) (args := ?a3) ?hi3 ?hd3 (by kernel_rfl) ?hw3 ?he3 ?hc3
        case hi3 => (simp only [List.getElem?_toArray, List.getElem?_cons_succ, List.getElem?_cons_zero]; rfl)
        case hd3 => rfl
        case hw3 => rfl
        case he3 => (go_simp; constructor <;> with_reducible rfl)
        refine Calls.mono (same_yes (X13.out _ hHeld).dat (X15.out _ hHeld).dat HR1.out (by omega)) ?_
        rintro e wx1 ⟨rfl, hb1⟩
        have kb := below_on hHeld hb1
        clear hHeld hb1
        refine ⟨_, rfl, kb, fun hHeld => ?_⟩
        simp only [List.set_cons_succ, List.set_cons_zero]
        refine take_at (i := 3) (d := 75) (oi := ?o4) (v := ?v4) ?hi4 ?hd4 (by kernel_rfl) (by kernel_rfl) (by kernel_rfl) ?hw4 ?hy4 ?hq4 (by assumption) ?r4
        case hi4 => (simp only [List.getElem?_toArray, List.getElem?_cons_succ, List.getElem?_cons_zero]; rfl)
        case hd4 => rfl
        case hw4 => rfl
        case hy4 => ((intro w hSw; (try dsimp only at hSw); go_simp) <;> (with_reducible rfl))
        case hq4 => exact fun _ _ _ h => h
        simp only [List.set_cons_succ, List.set_cons_zero]
        refine take_at (i := 4) (d := 76) (oi := ?o5) (v := ?v5) ?hi5 ?hd5 (by kernel_rfl) (by kernel_rfl) (by kernel_rfl) ?hw5 ?hy5 ?hq5 (by assumption) ?r5
        case hi5 => (simp only [List.getElem?_toArray, List.getElem?_cons_succ, List.getElem?_cons_zero]; rfl)
        case hd5 => rfl
        case hw5 => rfl
        case hy5 => ((intro w hSw; (try dsimp only at hSw); go_simp) <;> (with_reducible rfl))
        case hq5 => exact fun _ _ _ h => h
        simp only [List.set_cons_succ, List.set_cons_zero]
        refine take_at (i := 5) (d := 77) (oi := ?o6) (v := ?v6) ?hi6 ?hd6 (by kernel_rfl) (by kernel_rfl) (by kernel_rfl) ?hw6 ?hy6 ?hq6 (by assumption) ?r6
        case hi6 => (simp only [List.getElem?_toArray, List.getElem?_cons_succ, List.getElem?_cons_zero]; rfl)
        case hd6 => rfl
        case hw6 => rfl
        case hy6 => ((intro w hSw; (try dsimp only at hSw); go_simp) <;> (with_reducible rfl))
        case hq6 => exact fun _ _ _ h => h
        simp only [List.set_cons_succ, List.set_cons_zero]
        refine take_at (i := 6) (d := 78) (oi := ?o7) (v := ?v7) ?hi7 ?hd7 (by kernel_rfl) (by kernel_rfl) (by kernel_rfl) ?hw7 ?hy7 ?hq7 (by assumption) ?r7
        case hi7 => (simp only [List.getElem?_toArray, List.getElem?_cons_succ, List.getElem?_cons_zero]; rfl)
        case hd7 => rfl
        case hw7 => rfl
        case hy7 => ((intro w hSw; (try dsimp only at hSw); go_simp) <;> (with_reducible rfl))
        case hq7 => exact fun _ _ _ h => h
        simp only [List.set_cons_succ, List.set_cons_zero]
        refine take_at (i := 7) (d := 79) (oi := ?o8) (v := ?v8) ?hi8 ?hd8 (by kernel_rfl) (by kernel_rfl) (by kernel_rfl) ?hw8 ?hy8 ?hq8 (by assumption) ?r8
        case hi8 => (simp only [List.getElem?_toArray, List.getElem?_cons_succ, List.getElem?_cons_zero]; rfl)
        case hd8 => rfl
        case hw8 => rfl
        case hy8 => ((intro w hSw; (try dsimp only at hSw); go_simp) <;> (with_reducible rfl))
        case hq8 => exact fun _ _ _ h => h
        simp only [List.set_cons_succ, List.set_cons_zero]
        refine take_at (i := 8) (d := 80) (oi := ?o9) (v := ?v9) ?hi9 ?hd9 (by kernel_rfl) (by kernel_rfl) (by kernel_rfl) ?hw9 ?hy9 ?hq9 (by assumption) ?r9
        case hi9 => (simp only [List.getElem?_toArray, List.getElem?_cons_succ, List.getElem?_cons_zero]; rfl)
        case hd9 => rfl
        case hw9 => rfl
        case hy9 => ((intro w hSw; (try dsimp only at hSw); go_simp) <;> (with_reducible rfl))
        case hq9 => exact fun _ _ _ h => h
        simp only [List.set_cons_succ, List.set_cons_zero]
        refine take_at (i := 9) (d := 81) (oi := ?o10) (v := ?v10) ?hi10 ?hd10 (by kernel_rfl) (by kernel_rfl) (by kernel_rfl) ?hw10 ?hy10 ?hq10 (by assumption) ?r10
        case hi10 => (simp only [List.getElem?_toArray, List.getElem?_cons_succ, List.getElem?_cons_zero]; rfl)
        case hd10 => rfl
        case hw10 => rfl
        case hy10 => ((intro w hSw; (try dsimp only at hSw); go_simp) <;> (with_reducible rfl))
        case hq10 => exact fun _ _ _ h => h
        simp only [List.set_cons_succ, List.set_cons_zero]
        refine take_at (i := 10) (d := 82) (oi := ?o11) (v := ?v11) ?hi11 ?hd11 (by kernel_rfl) (by kernel_rfl) (by kernel_rfl) ?hw11 ?hy11 ?hq11 (by assumption) ?r11
        case hi11 => (simp only [List.getElem?_toArray, List.getElem?_cons_succ, List.getElem?_cons_zero]; rfl)
        case hd11 => rfl
        case hw11 => rfl
        case hy11 => ((intro w hSw; (try dsimp only at hSw); have hcs := DBox.cells (X17.out _ hSw); obtain ⟨k0, k1, k2, k3, k4⟩ := hcs; go_simp) <;> (with_reducible rfl))
        case hq11 => exact fun _ _ _ h => h
        simp only [List.set_cons_succ, List.set_cons_zero]
        refine take_at (i := 11) (d := 83) (oi := ?o12) (v := ?v12) ?hi12 ?hd12 (by kernel_rfl) (by kernel_rfl) (by kernel_rfl) ?hw12 ?hy12 ?hq12 (by assumption) ?r12
        case hi12 => (simp only [List.getElem?_toArray, List.getElem?_cons_succ, List.getElem?_cons_zero]; rfl)
        case hd12 => rfl
        case hw12 => rfl
        case hy12 => ((intro w hSw; (try dsimp only at hSw); have hcs := DBox.cells (X19.out _ hSw); obtain ⟨k0, k1, k2, k3, k4⟩ := hcs; go_simp) <;> (with_reducible rfl))
        case hq12 => exact fun _ _ _ h => h
        simp only [List.set_cons_succ, List.set_cons_zero]
        refine call_at (i := 12) (d := 84) (oi := ?o13) (f := ?f13) (args := ?a13) ?hi13 ?hd13 (by kernel_rfl) ?hw13 ?he13 ?hc13
        case hi13 => (simp only [List.getElem?_toArray, List.getElem?_cons_succ, List.getElem?_cons_zero]; rfl)
        case hd13 => rfl
        case hw13 => rfl
        case he13 => (go_simp; constructor <;> with_reducible rfl)
        refine Calls.mono (same_both (X17.out _ hHeld).dat (X19.out _ hHeld).dat HL2.out.1 HL2.out.2) ?_
        rintro e wx2 ⟨rfl, hb1⟩
        have kb := below_on hHeld hb1
        clear hHeld hb1
        refine ⟨_, rfl, kb, fun hHeld => ?_⟩
        simp only [List.set_cons_succ, List.set_cons_zero]
        refine take_at (i := 13) (d := 85) (oi := ?o14) (v := ?v14) ?hi14 ?hd14 (by kernel_rfl) (by kernel_rfl) (by kernel_rfl) ?hw14 ?hy14 ?hq14 (by assumption) ?r14
        case hi14 => (simp only [List.getElem?_toArray, List.getElem?_cons_succ, List.getElem?_cons_zero]; rfl)
        case hd14 => rfl
        case hw14 => rfl
        case hy14 => ((intro w hSw; (try dsimp only at hSw); go_simp) <;> (with_reducible rfl))
        case hq14 => exact fun _ _ _ h => h
        simp only [List.set_cons_succ, List.set_cons_zero]
        refine take_at (i := 14) (d := 86) (oi := ?o15) (v := ?v15) ?hi15 ?hd15 (by kernel_rfl) (by kernel_rfl) (by kernel_rfl) ?hw15 ?hy15 ?hq15 (by assumption) ?r15
        case hi15 => (simp only [List.getElem?_toArray, List.getElem?_cons_succ, List.getElem?_cons_zero]; rfl)
        case hd15 => rfl
        case hw15 => rfl
        case hy15 => ((intro w hSw; (try dsimp only at hSw); go_simp) <;> (with_reducible rfl))
        case hq15 => exact fun _ _ _ h => h
        simp only [List.set_cons_succ, List.set_cons_zero]
        refine take_at (i := 15) (d := 87) (oi := ?o16) (v := ?v16) ?hi16 ?hd16 (by kernel_rfl) (by kernel_rfl) (by kernel_rfl) ?hw16 ?hy16 ?hq16 (by assumption) ?r16
        case hi16 => (simp only [List.getElem?_toArray, List.getElem?_cons_succ, List.getElem?_cons_zero]; rfl)
        case hd16 => rfl
        case hw16 => rfl
        case hy16 => ((intro w hSw; (try dsimp only at hSw); go_simp) <;> (with_reducible rfl))
        case hq16 => exact fun _ _ _ h => h
        simp only [List.set_cons_succ, List.set_cons_zero]
        refine take_at (i := 16) (d := 88) (oi := ?o17) (v := ?v17) ?hi17 ?hd17 (by kernel_rfl) (by kernel_rfl) (by kernel_rfl) ?hw17 ?hy17 ?hq17 (by assumption) ?r17
        case hi17 => (simp only [List.getElem?_toArray, List.getElem?_cons_succ, List.getElem?_cons_zero]; rfl)
        case hd17 => rfl
        case hw17 => rfl
        case hy17 => ((intro w hSw; (try dsimp only at hSw); go_simp) <;> (with_reducible rfl))
        case hq17 => exact fun _ _ _ h => h
        simp only [List.set_cons_succ, List.set_cons_zero]
        refine take_at (i := 17) (d := 89) (oi := ?o18) (v := ?v18) ?hi18 ?hd18 (by kernel_rfl) (by kernel_rfl) (by kernel_rfl) ?hw18 ?hy18 ?hq18 (by assumption) ?r18
        case hi18 => (simp only [List.getElem?_toArray, List.getElem?_cons_succ, List.getElem?_cons_zero]; rfl)
        case hd18 => rfl
        case hw18 => rfl
        case hy18 => ((intro w hSw; (try dsimp only at hSw); go_simp) <;> (with_reducible rfl))
        case hq18 => exact fun _ _ _ h => h
        simp only [List.set_cons_succ, List.set_cons_zero]
        refine take_at (i := 18) (d := 90) (oi := ?o19) (v := ?v19) ?hi19 ?hd19 (by kernel_rfl) (by kernel_rfl) (by kernel_rfl) ?hw19 ?hy19 ?hq19 (by assumption) ?r19
        case hi19 => (simp only [List.getElem?_toArray, List.getElem?_cons_succ, List.getElem?_cons_zero]; rfl)
        case hd19 => rfl
        case hw19 => rfl
        case hy19 => ((intro w hSw; (try dsimp only at hSw); go_simp) <;> (with_reducible rfl))
        case hq19 => exact fun _ _ _ h => h
        simp only [List.set_cons_succ, List.set_cons_zero]
        refine take_at (i := 19) (d := 91) (oi := ?o20) (v := ?v20) ?hi20 ?hd20 (by kernel_rfl) (by kernel_rfl) (by kernel_rfl) ?hw20 ?hy20 ?hq20 (by assumption) ?r20
        case hi20 => (simp only [List.getElem?_toArray, List.getElem?_cons_succ, List.getElem?_cons_zero]; rfl)
        case hd20 => rfl
        case hw20 => rfl
        case hy20 => ((intro w hSw; (try dsimp only at hSw); go_simp) <;> (with_reducible rfl))
        case hq20 => exact fun _ _ _ h => h
        simp only [List.set_cons_succ, List.set_cons_zero]
        refine take_at (i := 20) (d := 92) (oi := ?o21) (v := ?v21) ?hi21 ?hd21 (by kernel_rfl) (by kernel_rfl) (by kernel_rfl) ?hw21 ?hy21 ?hq21 (by assumption) ?r21
        case hi21 => (simp only [List.getElem?_toArray, List.getElem?_cons_succ, List.getElem?_cons_zero]; rfl)
        case hd21 => rfl
        case hw21 => rfl
        case hy21 => ((intro w hSw; (try dsimp only at hSw); go_simp) <;> (with_reducible rfl))
        case hq21 => exact fun _ _ _ h => h
        simp only [List.set_cons_succ, List.set_cons_zero]
        refine take_at (i := 21) (d := 93) (oi := ?o22) (v := ?v22) ?hi22 ?hd22 (by kernel_rfl) (by kernel_rfl) (by kernel_rfl) ?hw22 ?hy22 ?hq22 (by assumption) ?r22
        case hi22 => (simp only [List.getElem?_toArray, List.getElem?_cons_succ, List.getElem?_cons_zero]; rfl)
        case hd22 => rfl
        case hw22 => rfl
        case hy22 => ((intro w hSw; (try dsimp only at hSw); go_simp) <;> (with_reducible rfl))
        case hq22 => exact fun _ _ _ h => h
        simp only [List.set_cons_succ, List.set_cons_zero]
        refine take_at (i := 22) (d := 94) (oi := ?o23) (v := ?v23) ?hi23 ?hd23 (by kernel_rfl) (by kernel_rfl) (by kernel_rfl) ?hw23 ?hy23 ?hq23 (by assumption) ?r23
        case hi23 => (simp only [List.getElem?_toArray, List.getElem?_cons_succ, List.getElem?_cons_zero]; rfl)
        case hd23 => rfl
        case hw23 => rfl
        case hy23 => ((intro w hSw; (try dsimp only at hSw); have cv := run_txt (c := ce) 26 9 5 Try.underlying26 Try.underlying5 Try.underlying9 (Xe.out _ hSw); go_simp) <;> (with_reducible rfl))
        case hq23 => exact fun _ _ _ h => h
        simp only [List.set_cons_succ, List.set_cons_zero]
        refine take_at (i := 23) (d := 95) (oi := ?o24) (v := ?v24) ?hi24 ?hd24 (by kernel_rfl) (by kernel_rfl) (by kernel_rfl) ?hw24 ?hy24 ?hq24 (by assumption) ?r24
        case hi24 => (simp only [List.getElem?_toArray, List.getElem?_cons_succ, List.getElem?_cons_zero]; rfl)
        case hd24 => rfl
        case hw24 => rfl
        case hy24 => ((intro w hSw; (try dsimp only at hSw); go_simp) <;> (with_reducible rfl))
        case hq24 => exact fun _ _ _ h => h
        simp only [List.set_cons_succ, List.set_cons_zero]
        refine take_at (i := 24) (d := 96) (oi := ?o25) (v := ?v25) ?hi25 ?hd25 (by kernel_rfl) (by kernel_rfl) (by kernel_rfl) ?hw25 ?hy25 ?hq25 (by assumption) ?r25
        case hi25 => (simp only [List.getElem?_toArray, List.getElem?_cons_succ, List.getElem?_cons_zero]; rfl)
        case hd25 => rfl
        case hw25 => rfl
        case hy25 => ((intro w hSw; (try dsimp only at hSw); have cv := run_txt (c := cf) 26 9 5 Try.underlying26 Try.underlying5 Try.underlying9 (Xf.out _ hSw); go_simp) <;> (with_reducible rfl))
        case hq25 => exact fun _ _ _ h => h
        simp only [List.set_cons_succ, List.set_cons_zero]
        refine take_at (i := 25) (d := 97) (oi := ?o26) (v := ?v26) ?hi26 ?hd26 (by kernel_rfl) (by kernel_rfl) (by kernel_rfl) ?hw26 ?hy26 ?hq26 (by assumption) ?r26
        case hi26 => (simp only [List.getElem?_toArray, List.getElem?_cons_succ, List.getElem?_cons_zero]; rfl)
        case hd26 => rfl
        case hw26 => rfl
        case hy26 => ((intro w hSw; (try dsimp only at hSw); go_simp) <;> (with_reducible rfl))
        case hq26 => exact fun _ _ _ h => h
        simp only [List.set_cons_succ, List.set_cons_zero]
        refine take_at (i := 26) (d := 98) (oi := ?o27) (v := ?v27) ?hi27 ?hd27 (by kernel_rfl) (by kernel_rfl) (by kernel_rfl) ?hw27 ?hy27 ?hq27 (by assumption) ?r27
        case hi27 => (simp only [List.getElem?_toArray, List.getElem?_cons_succ, List.getElem?_cons_zero]; rfl)
        case hd27 => rfl
        case hw27 => rfl
        case hy27 => ((intro w hSw; (try dsimp only at hSw); go_simp) <;> (with_reducible rfl))
        case hq27 => exact fun _ _ _ h => h
        simp only [List.set_cons_succ, List.set_cons_zero]
        refine take_at (i := 27) (d := 99) (oi := ?o28) (v := ?v28) ?hi28 ?hd28 (by kernel_rfl) (by kernel_rfl) (by kernel_rfl) ?hw28 ?hy28 ?hq28 (by assumption) ?r28
        case hi28 => (simp only [List.getElem?_toArray, List.getElem?_cons_succ, List.getElem?_cons_zero]; rfl)
        case hd28 => rfl
        case hw28 => rfl
        case hy28 => ((intro w hSw; (try dsimp only at hSw); go_simp) <;> (with_reducible rfl))
        case hq28 => exact fun _ _ _ h => h
        simp only [List.set_cons_succ, List.set_cons_zero]
        refine take_at (i := 28) (d := 100) (oi := ?o29) (v := ?v29) ?hi29 ?hd29 (by kernel_rfl) (by kernel_rfl) (by kernel_rfl) ?hw29 ?hy29 ?hq29 (by assumption) ?r29
        case hi29 => (simp only [List.getElem?_toArray, List.getElem?_cons_succ, List.getElem?_cons_zero]; rfl)
        case hd29 => rfl
        case hw29 => rfl
        case hy29 => ((intro w hSw; (try dsimp only at hSw); go_simp) <;> (with_reducible rfl))
        case hq29 => exact fun _ _ _ h => h
        simp only [List.set_cons_succ, List.set_cons_zero]
        refine take_at (i := 29) (d := 101) (oi := ?o30) (v := ?v30) ?hi30 ?hd30 (by kernel_rfl) (by kernel_rfl) (by kernel_rfl) ?hw30 ?hy30 ?hq30 (by assumption) ?r30
        case hi30 => (simp only [List.getElem?_toArray, List.getElem?_cons_succ, List.getElem?_cons_zero]; rfl)
        case hd30 => rfl
        case hw30 => rfl
        case hy30 => ((intro w hSw; (try dsimp only at hSw); go_simp) <;> (with_reducible rfl))
        case hq30 => exact fun _ _ _ h => h
        simp only [List.set_cons_succ, List.set_cons_zero]
        refine take_at (i := 30) (d := 102) (oi := ?o31) (v := ?v31) ?hi31 ?hd31 (by kernel_rfl) (by kernel_rfl) (by kernel_rfl) ?hw31 ?hy31 ?hq31 (by assumption) ?r31
        case hi31 => (simp only [List.getElem?_toArray, List.getElem?_cons_succ, List.getElem?_cons_zero]; rfl)
        case hd31 => rfl
        case hw31 => rfl
        case hy31 => ((intro w hSw; (try dsimp only at hSw); go_simp) <;> (with_reducible rfl))
        case hq31 => exact fun _ _ _ h => h
        simp only [List.set_cons_succ, List.set_cons_zero]
        refine take_at (i := 31) (d := 103) (oi := ?o32) (v := ?v32) ?hi32 ?hd32 (by kernel_rfl) (by kernel_rfl) (by kernel_rfl) ?hw32 ?hy32 ?hq32 (by assumption) ?r32
        case hi32 => (simp only [List.getElem?_toArray, List.getElem?_cons_succ, List.getElem?_cons_zero]; rfl)
        case hd32 => rfl
        case hw32 => rfl
        case hy32 => ((intro w hSw; (try dsimp only at hSw); go_simp) <;> (with_reducible rfl))
        case hq32 => exact fun _ _ _ h => h
        simp only [List.set_cons_succ, List.set_cons_zero]
        refine take_at (i := 32) (d := 104) (oi := ?o33) (v := ?v33) ?hi33 ?hd33 (by kernel_rfl) (by kernel_rfl) (by kernel_rfl) ?hw33 ?hy33 ?hq33 (by assumption) ?r33
        case hi33 => (simp only [List.getElem?_toArray, List.getElem?_cons_succ, List.getElem?_cons_zero]; rfl)
        case hd33 => rfl
        case hw33 => rfl
        case hy33 => ((intro w hSw; (try dsimp only at hSw); go_simp) <;> (with_reducible rfl))
        case hq33 => exact fun _ _ _ h => h
        simp only [List.set_cons_succ, List.set_cons_zero]
        refine take_at (i := 33) (d := 105) (oi := ?o34) (v := ?v34) ?hi34 ?hd34 (by kernel_rfl) (by kernel_rfl) (by kernel_rfl) ?hw34 ?hy34 ?hq34 (by assumption) ?r34
        case hi34 => (simp only [List.getElem?_toArray, List.getElem?_cons_succ, List.getElem?_cons_zero]; rfl)
        case hd34 => rfl
        case hw34 => rfl
        case hy34 => ((intro w hSw; (try dsimp only at hSw); have hcs := DBox.cells (Y6.out _ hSw); obtain ⟨k0, k1, k2, k3, k4⟩ := hcs; go_simp) <;> (with_reducible rfl))
        case hq34 => exact fun _ _ _ h => h
        simp only [List.set_cons_succ, List.set_cons_zero]
        refine take_at (i := 35) (d := 107) (oi := ?o35) (v := ?v35) ?hi35 ?hd35 (by kernel_rfl) (by kernel_rfl) (by kernel_rfl) ?hw35 ?hy35 ?hq35 (by assumption) ?r35
        case hi35 => (simp only [List.getElem?_toArray, List.getElem?_cons_succ, List.getElem?_cons_zero]; rfl)
        case hd35 => rfl
        case hw35 => rfl
        case hy35 => ((intro w hSw; (try dsimp only at hSw); have hcs := DBox.cells (Y6.out _ hSw); obtain ⟨k0, k1, k2, k3, k4⟩ := hcs; go_simp) <;> (with_reducible rfl))
        case hq35 => exact fun _ _ _ h => h
        simp only [List.set_cons_succ, List.set_cons_zero]
        refine call_at (i := 34) (d := 106) (oi := ?o36) (f := ?f36) (args := ?a36) ?hi36 ?hd36 (by kernel_rfl) ?hw36 ?he36 ?hc36
        case hi36 => (simp only [List.getElem?_toArray, List.getElem?_cons_succ, List.getElem?_cons_zero]; rfl)
        case hd36 => rfl
        case hw36 => rfl
        case he36 => (go_simp; constructor <;> with_reducible rfl)
        refine Calls.mono (dev_right (Y6.out _ hHeld).dat (HR.out.small (by omega)) HR.out.nms) ?_
        rintro e wx3 ⟨rfl, hb1⟩
        rw [Hbr.out]
        have kb := below_on hHeld hb1
        clear hHeld hb1
        refine ⟨_, rfl, kb, fun hHeld => ?_⟩
        simp only [List.set_cons_succ, List.set_cons_zero]
        refine call_at (i := 36) (d := 108) (oi := ?o37) (f := ?f37) (args := ?a37) ?hi37 ?hd37 (by kernel_rfl) ?hw37 ?he37 ?hc37
        case hi37 => (simp only [List.getElem?_toArray, List.getElem?_cons_succ, List.getElem?_cons_zero]; rfl)
        case hd37 => rfl
        case hw37 => rfl
        case he37 => (go_simp; constructor <;> with_reducible rfl)
        refine Calls.mono (right_any (Y6.out _ hHeld).dat (HR.out.small (by omega))) ?_
        rintro e wx4 ⟨rfl, hb1⟩
        rw [Hbr.out]
        have kb := below_on hHeld hb1
        clear hHeld hb1
        refine ⟨_, rfl, kb, fun hHeld => ?_⟩
        simp only [List.set_cons_succ, List.set_cons_zero]
        refine take_at (i := 37) (d := 109) (oi := ?o38) (v := ?v38) ?hi38 ?hd38 (by kernel_rfl) (by kernel_rfl) (by kernel_rfl) ?hw38 ?hy38 ?hq38 (by assumption) ?r38
        case hi38 => (simp only [List.getElem?_toArray, List.getElem?_cons_succ, List.getElem?_cons_zero]; rfl)
        case hd38 => rfl
        case hw38 => rfl
        case hy38 => ((intro w hSw; (try dsimp only at hSw); go_simp) <;> (with_reducible rfl))
        case hq38 => exact fun _ _ _ h => h
        simp only [List.set_cons_succ, List.set_cons_zero]
        refine take_at (i := 38) (d := 110) (oi := ?o39) (v := ?v39) ?hi39 ?hd39 (by kernel_rfl) (by kernel_rfl) (by kernel_rfl) ?hw39 ?hy39 ?hq39 (by assumption) ?r39
        case hi39 => (simp only [List.getElem?_toArray, List.getElem?_cons_succ, List.getElem?_cons_zero]; rfl)
        case hd39 => rfl
        case hw39 => rfl
        case hy39 => ((intro w hSw; (try dsimp only at hSw); go_simp) <;> (with_reducible rfl))
        case hq39 => exact fun _ _ _ h => h
        simp only [List.set_cons_succ, List.set_cons_zero]
        refine take_at (i := 39) (d := 111) (oi := ?o40) (v := ?v40) ?hi40 ?hd40 (by kernel_rfl) (by kernel_rfl) (by kernel_rfl) ?hw40 ?hy40 ?hq40 (by assumption) ?r40
        case hi40 => (simp only [List.getElem?_toArray, List.getElem?_cons_succ, List.getElem?_cons_zero]; rfl)
        case hd40 => rfl
        case hw40 => rfl
        case hy40 => ((intro w hSw; (try dsimp only at hSw); go_simp) <;> (with_reducible rfl))
        case hq40 => exact fun _ _ _ h => h
        simp only [List.set_cons_succ, List.set_cons_zero]
        refine take_at (i := 40) (d := 112) (oi := ?o41) (v := ?v41) ?hi41 ?hd41 (by kernel_rfl) (by kernel_rfl) (by kernel_rfl) ?hw41 ?hy41 ?hq41 (by assumption) ?r41
        case hi41 => (simp only [List.getElem?_toArray, List.getElem?_cons_succ, List.getElem?_cons_zero]; rfl)
        case hd41 => rfl
        case hw41 => rfl
        case hy41 => ((intro w hSw; (try dsimp only at hSw); have hcs := DBox.cells (Y6.out _ hSw); obtain ⟨k0, k1, k2, k3, k4⟩ := hcs; go_simp) <;> (with_reducible rfl))
        case hq41 => exact fun _ _ _ h => h
        simp only [List.set_cons_succ, List.set_cons_zero]
        refine take_at (i := 41) (d := 113) (oi := ?o42) (v := ?v42) ?hi42 ?hd42 (by kernel_rfl) (by kernel_rfl) (by kernel_rfl) ?hw42 ?hy42 ?hq42 (by assumption) ?r42
        case hi42 => (simp only [List.getElem?_toArray, List.getElem?_cons_succ, List.getElem?_cons_zero]; rfl)
        case hd42 => rfl
        case hw42 => rfl
        case hy42 => ((intro w hSw; (try dsimp only at hSw); have hcs := DBox.cells (Y7.out _ hSw); obtain ⟨k0, k1, k2, k3, k4⟩ := hcs; go_simp) <;> (with_reducible rfl))
        case hq42 => exact fun _ _ _ h => h
        simp only [List.set_cons_succ, List.set_cons_zero]
        refine take_at (i := 43) (d := 115) (oi := ?o43) (v := ?v43) ?hi43 ?hd43 (by kernel_rfl) (by kernel_rfl) (by kernel_rfl) ?hw43 ?hy43 ?hq43 (by assumption) ?r43
        case hi43 => (simp only [List.getElem?_toArray, List.getElem?_cons_succ, List.getElem?_cons_zero]; rfl)
        case hd43 => rfl
        case hw43 => rfl
        case hy43 => ((intro w hSw; (try dsimp only at hSw); have hcs := DBox.cells (Y6.out _ hSw); obtain ⟨k0, k1, k2, k3, k4⟩ := hcs; go_simp) <;> (with_reducible rfl))
        case hq43 => exact fun _ _ _ h => h
        simp only [List.set_cons_succ, List.set_cons_zero]
        refine take_at (i := 44) (d := 116) (oi := ?o44) (v := ?v44) ?hi44 ?hd44 (by kernel_rfl) (by kernel_rfl) (by kernel_rfl) ?hw44 ?hy44 ?hq44 (by assumption) ?r44
        case hi44 => (simp only [List.getElem?_toArray, List.getElem?_cons_succ, List.getElem?_cons_zero]; rfl)
        case hd44 => rfl
        case hw44 => rfl
        case hy44 => ((intro w hSw; (try dsimp only at hSw); have hcs := DBox.cells (Y7.out _ hSw); obtain ⟨k0, k1, k2, k3, k4⟩ := hcs; go_simp) <;> (with_reducible rfl))
        case hq44 => exact fun _ _ _ h => h
        simp only [List.set_cons_succ, List.set_cons_zero]
        refine call_at (i := 42) (d := 114) (oi := ?o45) (f := ?f45) (args := ?a45) ?hi45 ?hd45 (by kernel_rfl) ?hw45 ?he45 ?hc45
        case hi45 => (simp only [List.getElem?_toArray, List.getElem?_cons_succ, List.getElem?_cons_zero]; rfl)
        case hd45 => rfl
        case hw45 => rfl
        case he45 => (go_simp; constructor <;> with_reducible rfl)
        refine Calls.mono (dev_same (Y6.out _ hHeld).dat (Y7.out _ hHeld).dat (HR.out.small (by omega))) ?_
        rintro e wx5 ⟨hsy, hb1⟩
        obtain rfl := says_val hsy Hbs.out
        clear hsy
        have kb := below_on hHeld hb1
        clear hHeld hb1
        refine ⟨_, rfl, kb, fun hHeld => ?_⟩
        simp only [List.set_cons_succ, List.set_cons_zero]
        refine call_at (i := 45) (d := 117) (oi := ?o46) (f := ?f46) (args := ?a46) ?hi46 ?hd46 (by kernel_rfl) ?hw46 ?he46 ?hc46
        case hi46 => (simp only [List.getElem?_toArray, List.getElem?_cons_succ, List.getElem?_cons_zero]; rfl)
        case hd46 => rfl
        case hw46 => rfl
        case he46 => (go_simp; constructor <;> with_reducible rfl)
        refine Calls.mono (same_gen (Y6.out _ hHeld).dat (Y7.out _ hHeld).dat HR.out HR'.out (by omega)) ?_
        rintro e wx6 ⟨hsy, hb1⟩
        obtain rfl := says_val hsy Hbs.out
        clear hsy
        have kb := below_on hHeld hb1
        clear hHeld hb1
        refine ⟨_, rfl, kb, fun hHeld => ?_⟩
        simp only [List.set_cons_succ, List.set_cons_zero]
        refine take_at (i := 46) (d := 118) (oi := ?o47) (v := ?v47) ?hi47 ?hd47 (by kernel_rfl) (by kernel_rfl) (by kernel_rfl) ?hw47 ?hy47 ?hq47 (by assumption) ?r47
        case hi47 => (simp only [List.getElem?_toArray, List.getElem?_cons_succ, List.getElem?_cons_zero]; rfl)
        case hd47 => rfl
        case hw47 => rfl
        case hy47 => ((intro w hSw; (try dsimp only at hSw); go_simp) <;> (with_reducible rfl))
        case hq47 => exact fun _ _ _ h => h
        simp only [List.set_cons_succ, List.set_cons_zero]
        refine take_at (i := 47) (d := 119) (oi := ?o48) (v := ?v48) ?hi48 ?hd48 (by kernel_rfl) (by kernel_rfl) (by kernel_rfl) ?hw48 ?hy48 ?hq48 (by assumption) ?r48
        case hi48 => (simp only [List.getElem?_toArray, List.getElem?_cons_succ, List.getElem?_cons_zero]; rfl)
        case hd48 => rfl
        case hw48 => rfl
        case hy48 => ((intro w hSw; (try dsimp only at hSw); go_simp) <;> (with_reducible rfl))
        case hq48 => exact fun _ _ _ h => h
        simp only [List.set_cons_succ, List.set_cons_zero]
        refine wpAnyH_done (by kernel_rfl) ?_ _
        go_wp2_with fail
        go_meet
        exact ⟨rfl, hHeld⟩
      case rest =>
        obtain ⟨rfl, kb⟩ := hcut
        obtain ⟨wr, rfl⟩ : ∃ wr, wr = wc := ⟨_, rfl⟩
        have Z6 := Lib.hid (show ∀ W, Below wr.heap.size wr W → DBox W z6 D A n c B m k from fun W hW => Y6.out W (below_on kb hW))
        have HB3 := Lib.hid (HB2.out.trans (kb.mono HB2.out.size))
        have HL3 := Lib.hid (crash_len HR.out (by omega) keep torn)
        clear X13 X15 X17 X19 Xe Xf Y6 Y7 HB2 kb Hbs Hbr
        go_upto_region 11 with fail
        refine wp_region_held_drew (S := (fun W => Below wr.heap.size wr W)) (by kernel_rfl) (below_dr (below_d0 _)) (fun hHeld => ?_)
        refine take_at (i := 0) (d := 120) (oi := ?o49) (v := ?v49) ?hi49 ?hd49 (by kernel_rfl) (by kernel_rfl) (by kernel_rfl) ?hw49 ?hy49 ?hq49 (by assumption) ?r49
        case hi49 => (simp only [List.getElem?_toArray, List.getElem?_cons_zero]; rfl)
        case hd49 => rfl
        case hw49 => rfl
        case hy49 => ((intro w hSw; (try dsimp only at hSw); have hcs := DBox.cells (Z6.out _ hSw); obtain ⟨k0, k1, k2, k3, k4⟩ := hcs; go_simp) <;> (with_reducible rfl))
        case hq49 => exact fun _ _ _ h => h
        simp only [List.set_cons_succ, List.set_cons_zero]
        refine take_at (i := 1) (d := 121) (oi := ?o50) (v := ?v50) ?hi50 ?hd50 (by kernel_rfl) (by kernel_rfl) (by kernel_rfl) ?hw50 ?hy50 ?hq50 (by assumption) ?r50
        case hi50 => (simp only [List.getElem?_toArray, List.getElem?_cons_succ, List.getElem?_cons_zero]; rfl)
        case hd50 => rfl
        case hw50 => rfl
        case hy50 => ((intro w hSw; (try dsimp only at hSw); go_simp) <;> (with_reducible rfl))
        case hq50 => exact fun _ _ _ h => h
        simp only [List.set_cons_succ, List.set_cons_zero]
        refine take_at (i := 2) (d := 122) (oi := ?o51) (v := ?v51) ?hi51 ?hd51 (by kernel_rfl) (by kernel_rfl) (by kernel_rfl) ?hw51 ?hy51 ?hq51 (by assumption) ?r51
        case hi51 => (simp only [List.getElem?_toArray, List.getElem?_cons_succ, List.getElem?_cons_zero]; rfl)
        case hd51 => rfl
        case hw51 => rfl
        case hy51 => ((intro w hSw; (try dsimp only at hSw); go_simp) <;> (with_reducible rfl))
        case hq51 => exact fun _ _ _ h => h
        simp only [List.set_cons_succ, List.set_cons_zero]
        refine take_at (i := 4) (d := 124) (oi := ?o52) (v := ?v52) ?hi52 ?hd52 (by kernel_rfl) (by kernel_rfl) (by kernel_rfl) ?hw52 ?hy52 ?hq52 (by assumption) ?r52
        case hi52 => (simp only [List.getElem?_toArray, List.getElem?_cons_succ, List.getElem?_cons_zero]; rfl)
        case hd52 => rfl
        case hw52 => rfl
        case hy52 => ((intro w hSw; (try dsimp only at hSw); have hcs := DBox.cells (Z6.out _ hSw); obtain ⟨k0, k1, k2, k3, k4⟩ := hcs; go_simp) <;> (with_reducible rfl))
        case hq52 => exact fun _ _ _ h => h
        simp only [List.set_cons_succ, List.set_cons_zero]
        refine take_at (i := 5) (d := 125) (oi := ?o53) (v := ?v53) ?hi53 ?hd53 (by kernel_rfl) (by kernel_rfl) (by kernel_rfl) ?hw53 ?hy53 ?hq53 (by assumption) ?r53
        case hi53 => (simp only [List.getElem?_toArray, List.getElem?_cons_succ, List.getElem?_cons_zero]; rfl)
        case hd53 => rfl
        case hw53 => rfl
        case hy53 => ((intro w hSw; (try dsimp only at hSw); go_simp) <;> (with_reducible rfl))
        case hq53 => exact fun _ _ _ h => h
        simp only [List.set_cons_succ, List.set_cons_zero]
        refine take_at (i := 6) (d := 126) (oi := ?o54) (v := ?v54) ?hi54 ?hd54 (by kernel_rfl) (by kernel_rfl) (by kernel_rfl) ?hw54 ?hy54 ?hq54 (by assumption) ?r54
        case hi54 => (simp only [List.getElem?_toArray, List.getElem?_cons_succ, List.getElem?_cons_zero]; rfl)
        case hd54 => rfl
        case hw54 => rfl
        case hy54 => ((intro w hSw; (try dsimp only at hSw); go_simp) <;> (with_reducible rfl))
        case hq54 => exact fun _ _ _ h => h
        simp only [List.set_cons_succ, List.set_cons_zero]
        refine call_at (i := 3) (d := 123) (oi := ?o55) (f := ?f55) (args := ?a55) ?hi55 ?hd55 (by kernel_rfl) ?hw55 ?he55 ?hc55
        case hi55 => (simp only [List.getElem?_toArray, List.getElem?_cons_succ, List.getElem?_cons_zero]; rfl)
        case hd55 => rfl
        case hw55 => rfl
        case he55 => (go_simp; constructor <;> with_reducible rfl)
        refine Calls.mono (crash_step keep torn (Z6.out _ hHeld).dat HR.out (by omega)) ?_
        rintro e v1 ⟨⟨A3, n3, c3, B3, m3, k3, rfl, g3⟩, hb1⟩
        have kb := below_on hHeld hb1
        clear hHeld hb1
        refine ⟨_, rfl, kb, fun hHeld => ?_⟩
        simp only [List.set_cons_succ, List.set_cons_zero]
        refine call_at (i := 7) (d := 127) (oi := ?o56) (f := ?f56) (args := ?a56) ?hi56 ?hd56 (by kernel_rfl) ?hw56 ?he56 ?hc56
        case hi56 => (simp only [List.getElem?_toArray, List.getElem?_cons_succ, List.getElem?_cons_zero]; rfl)
        case hd56 => rfl
        case hw56 => rfl
        case he56 => (go_simp; constructor <;> with_reducible rfl)
        refine Calls.mono (ref_crash_step keep torn (Z6.out _ hHeld).dat HR.out (by omega)) ?_
        rintro e v2 ⟨⟨A4, n4, c4, B4, m4, k4, rfl, g4⟩, hb1⟩
        replace g3 := g3.on hb1
        have kb := below_on hHeld hb1
        clear hHeld hb1
        refine ⟨_, rfl, kb, fun hHeld => ?_⟩
        simp only [List.set_cons_succ, List.set_cons_zero]
        refine call_at (i := 8) (d := 128) (oi := ?o57) (f := ?f57) (args := ?a57) ?hi57 ?hd57 (by kernel_rfl) ?hw57 ?he57 ?hc57
        case hi57 => (simp only [List.getElem?_toArray, List.getElem?_cons_succ, List.getElem?_cons_zero]; rfl)
        case hd57 => rfl
        case hw57 => rfl
        case he57 => (go_simp; constructor <;> with_reducible rfl)
        refine Calls.mono (same_both g3 g4 HL3.out.1 HL3.out.2) ?_
        rintro e v3 ⟨rfl, hb1⟩
        clear g3 g4
        have kb := below_on hHeld hb1
        clear hHeld hb1
        refine ⟨_, rfl, kb, fun hHeld => ?_⟩
        simp only [List.set_cons_succ, List.set_cons_zero]
        refine take_at (i := 9) (d := 129) (oi := ?o58) (v := ?v58) ?hi58 ?hd58 (by kernel_rfl) (by kernel_rfl) (by kernel_rfl) ?hw58 ?hy58 ?hq58 (by assumption) ?r58
        case hi58 => (simp only [List.getElem?_toArray, List.getElem?_cons_succ, List.getElem?_cons_zero]; rfl)
        case hd58 => rfl
        case hw58 => rfl
        case hy58 => ((intro w hSw; (try dsimp only at hSw); go_simp) <;> (with_reducible rfl))
        case hq58 => exact fun _ _ _ h => h
        simp only [List.set_cons_succ, List.set_cons_zero]
        refine take_at (i := 10) (d := 130) (oi := ?o59) (v := ?v59) ?hi59 ?hd59 (by kernel_rfl) (by kernel_rfl) (by kernel_rfl) ?hw59 ?hy59 ?hq59 (by assumption) ?r59
        case hi59 => (simp only [List.getElem?_toArray, List.getElem?_cons_succ, List.getElem?_cons_zero]; rfl)
        case hd59 => rfl
        case hw59 => rfl
        case hy59 => ((intro w hSw; (try dsimp only at hSw); have hcs := DBox.cells (Z6.out _ hSw); obtain ⟨k0, k1, k2, k3, k4⟩ := hcs; go_simp) <;> (with_reducible rfl))
        case hq59 => exact fun _ _ _ h => h
        simp only [List.set_cons_succ, List.set_cons_zero]
        refine take_at (i := 12) (d := 132) (oi := ?o60) (v := ?v60) ?hi60 ?hd60 (by kernel_rfl) (by kernel_rfl) (by kernel_rfl) ?hw60 ?hy60 ?hq60 (by assumption) ?r60
        case hi60 => (simp only [List.getElem?_toArray, List.getElem?_cons_succ, List.getElem?_cons_zero]; rfl)
        case hd60 => rfl
        case hw60 => rfl
        case hy60 => ((intro w hSw; (try dsimp only at hSw); have hcs := DBox.cells (Z6.out _ hSw); obtain ⟨k0, k1, k2, k3, k4⟩ := hcs; go_simp) <;> (with_reducible rfl))
        case hq60 => exact fun _ _ _ h => h
        simp only [List.set_cons_succ, List.set_cons_zero]
        refine call_at (i := 11) (d := 131) (oi := ?o61) (f := ?f61) (args := ?a61) ?hi61 ?hd61 (by kernel_rfl) ?hw61 ?he61 ?hc61
        case hi61 => (simp only [List.getElem?_toArray, List.getElem?_cons_succ, List.getElem?_cons_zero]; rfl)
        case hd61 => rfl
        case hw61 => rfl
        case he61 => (go_simp; constructor <;> with_reducible rfl)
        refine Calls.mono (now_step (Z6.out _ hHeld).dat HR.out (by omega)) ?_
        rintro e v4 ⟨⟨A6, n6, c6, f6, rfl, hc6, r6, p6⟩, hb1⟩
        have kb := below_on hHeld hb1
        clear hHeld hb1
        refine ⟨_, rfl, kb, fun hHeld => ?_⟩
        simp only [List.set_cons_succ, List.set_cons_zero]
        refine call_at (i := 13) (d := 133) (oi := ?o62) (f := ?f62) (args := ?a62) ?hi62 ?hd62 (by kernel_rfl) ?hw62 ?he62 ?hc62
        case hi62 => (simp only [List.getElem?_toArray, List.getElem?_cons_succ, List.getElem?_cons_zero]; rfl)
        case hd62 => rfl
        case hw62 => rfl
        case he62 => (go_simp; constructor <;> with_reducible rfl)
        refine Calls.mono (now_any (Z6.out _ hHeld).dat (HR.out.small (by omega))) ?_
        rintro e v5 ⟨⟨A7, n7, c7, f7, rfl, hc7, r7, p7⟩, hb1⟩
        replace r6 := r6.on hb1 hb1.size
        have kb := below_on hHeld hb1
        clear hHeld hb1
        refine ⟨_, rfl, kb, fun hHeld => ?_⟩
        simp only [List.set_cons_succ, List.set_cons_zero]
        refine call_at (i := 14) (d := 134) (oi := ?o63) (f := ?f63) (args := ?a63) ?hi63 ?hd63 (by kernel_rfl) ?hw63 ?he63 ?hc63
        case hi63 => (simp only [List.getElem?_toArray, List.getElem?_cons_succ, List.getElem?_cons_zero]; rfl)
        case hd63 => rfl
        case hw63 => rfl
        case he63 => (go_simp; constructor <;> with_reducible rfl)
        refine Calls.mono (files_yes r6 r7 (by rw [← r6.len]; exact fm_length p6 (HR.out.small (by omega))) (p6.trans p7.symm)) ?_
        rintro e v6 ⟨rfl, hb1⟩
        clear r6 r7 p6 p7 hc6 hc7
        have kb := below_on hHeld hb1
        clear hHeld hb1
        refine ⟨_, rfl, kb, fun hHeld => ?_⟩
        simp only [List.set_cons_succ, List.set_cons_zero]
        refine take_at (i := 15) (d := 135) (oi := ?o64) (v := ?v64) ?hi64 ?hd64 (by kernel_rfl) (by kernel_rfl) (by kernel_rfl) ?hw64 ?hy64 ?hq64 (by assumption) ?r64
        case hi64 => (simp only [List.getElem?_toArray, List.getElem?_cons_succ, List.getElem?_cons_zero]; rfl)
        case hd64 => rfl
        case hw64 => rfl
        case hy64 => ((intro w hSw; (try dsimp only at hSw); go_simp) <;> (with_reducible rfl))
        case hq64 => exact fun _ _ _ h => h
        simp only [List.set_cons_succ, List.set_cons_zero]
        refine take_at (i := 16) (d := 136) (oi := ?o65) (v := ?v65) ?hi65 ?hd65 (by kernel_rfl) (by kernel_rfl) (by kernel_rfl) ?hw65 ?hy65 ?hq65 (by assumption) ?r65
        case hi65 => (simp only [List.getElem?_toArray, List.getElem?_cons_succ, List.getElem?_cons_zero]; rfl)
        case hd65 => rfl
        case hw65 => rfl
        case hy65 => ((intro w hSw; (try dsimp only at hSw); go_simp) <;> (with_reducible rfl))
        case hq65 => exact fun _ _ _ h => h
        simp only [List.set_cons_succ, List.set_cons_zero]
        refine take_at (i := 17) (d := 137) (oi := ?o66) (v := ?v66) ?hi66 ?hd66 (by kernel_rfl) (by kernel_rfl) (by kernel_rfl) ?hw66 ?hy66 ?hq66 (by assumption) ?r66
        case hi66 => (simp only [List.getElem?_toArray, List.getElem?_cons_succ, List.getElem?_cons_zero]; rfl)
        case hd66 => rfl
        case hw66 => rfl
        case hy66 => ((intro w hSw; (try dsimp only at hSw); have hcs := DBox.cells (Z6.out _ hSw); obtain ⟨k0, k1, k2, k3, k4⟩ := hcs; go_simp) <;> (with_reducible rfl))
        case hq66 => exact fun _ _ _ h => h
        simp only [List.set_cons_succ, List.set_cons_zero]
        refine take_at (i := 19) (d := 139) (oi := ?o67) (v := ?v67) ?hi67 ?hd67 (by kernel_rfl) (by kernel_rfl) (by kernel_rfl) ?hw67 ?hy67 ?hq67 (by assumption) ?r67
        case hi67 => (simp only [List.getElem?_toArray, List.getElem?_cons_succ, List.getElem?_cons_zero]; rfl)
        case hd67 => rfl
        case hw67 => rfl
        case hy67 => ((intro w hSw; (try dsimp only at hSw); have hcs := DBox.cells (Z6.out _ hSw); obtain ⟨k0, k1, k2, k3, k4⟩ := hcs; go_simp) <;> (with_reducible rfl))
        case hq67 => exact fun _ _ _ h => h
        simp only [List.set_cons_succ, List.set_cons_zero]
        refine call_at (i := 18) (d := 138) (oi := ?o68) (f := ?f68) (args := ?a68) ?hi68 ?hd68 (by kernel_rfl) ?hw68 ?he68 ?hc68
        case hi68 => (simp only [List.getElem?_toArray, List.getElem?_cons_succ, List.getElem?_cons_zero]; rfl)
        case hd68 => rfl
        case hw68 => rfl
        case he68 => (go_simp; constructor <;> with_reducible rfl)
        refine Calls.mono (dev_usedD (Z6.out _ hHeld).dat (HR.out.small (by omega)) HR.out.nms) ?_
        rintro e v7 ⟨rfl, hb1⟩
        have kb := below_on hHeld hb1
        clear hHeld hb1
        refine ⟨_, rfl, kb, fun hHeld => ?_⟩
        simp only [List.set_cons_succ, List.set_cons_zero]
        refine call_at (i := 20) (d := 140) (oi := ?o69) (f := ?f69) (args := ?a69) ?hi69 ?hd69 (by kernel_rfl) ?hw69 ?he69 ?hc69
        case hi69 => (simp only [List.getElem?_toArray, List.getElem?_cons_succ, List.getElem?_cons_zero]; rfl)
        case hd69 => rfl
        case hw69 => rfl
        case he69 => (go_simp; constructor <;> with_reducible rfl)
        refine Calls.mono (used_any (Z6.out _ hHeld).dat (HR.out.small (by omega))) ?_
        rintro e v8 ⟨rfl, hb1⟩
        have kb := below_on hHeld hb1
        clear hHeld hb1
        refine ⟨_, rfl, kb, fun hHeld => ?_⟩
        simp only [List.set_cons_succ, List.set_cons_zero]
        refine take_at (i := 21) (d := 141) (oi := ?o70) (v := ?v70) ?hi70 ?hd70 (by kernel_rfl) (by kernel_rfl) (by kernel_rfl) ?hw70 ?hy70 ?hq70 (by assumption) ?r70
        case hi70 => (simp only [List.getElem?_toArray, List.getElem?_cons_succ, List.getElem?_cons_zero]; rfl)
        case hd70 => rfl
        case hw70 => rfl
        case hy70 => ((intro w hSw; (try dsimp only at hSw); go_simp) <;> (with_reducible rfl))
        case hq70 => exact fun _ _ _ h => h
        simp only [List.set_cons_succ, List.set_cons_zero]
        refine take_at (i := 22) (d := 142) (oi := ?o71) (v := ?v71) ?hi71 ?hd71 (by kernel_rfl) (by kernel_rfl) (by kernel_rfl) ?hw71 ?hy71 ?hq71 (by assumption) ?r71
        case hi71 => (simp only [List.getElem?_toArray, List.getElem?_cons_succ, List.getElem?_cons_zero]; rfl)
        case hd71 => rfl
        case hw71 => rfl
        case hy71 => ((intro w hSw; (try dsimp only at hSw); go_simp) <;> (with_reducible rfl))
        case hq71 => exact fun _ _ _ h => h
        simp only [List.set_cons_succ, List.set_cons_zero]
        refine take_at (i := 23) (d := 143) (oi := ?o72) (v := ?v72) ?hi72 ?hd72 (by kernel_rfl) (by kernel_rfl) (by kernel_rfl) ?hw72 ?hy72 ?hq72 (by assumption) ?r72
        case hi72 => (simp only [List.getElem?_toArray, List.getElem?_cons_succ, List.getElem?_cons_zero]; rfl)
        case hd72 => rfl
        case hw72 => rfl
        case hy72 => ((intro w hSw; (try dsimp only at hSw); go_simp) <;> (with_reducible rfl))
        case hq72 => exact fun _ _ _ h => h
        simp only [List.set_cons_succ, List.set_cons_zero]
        refine take_at (i := 24) (d := 144) (oi := ?o73) (v := ?v73) ?hi73 ?hd73 (by kernel_rfl) (by kernel_rfl) (by kernel_rfl) ?hw73 ?hy73 ?hq73 (by assumption) ?r73
        case hi73 => (simp only [List.getElem?_toArray, List.getElem?_cons_succ, List.getElem?_cons_zero]; rfl)
        case hd73 => rfl
        case hw73 => rfl
        case hy73 => ((intro w hSw; (try dsimp only at hSw); have hcs := DBox.cells (Z6.out _ hSw); obtain ⟨k0, k1, k2, k3, k4⟩ := hcs; go_simp) <;> (with_reducible rfl))
        case hq73 => exact fun _ _ _ h => h
        simp only [List.set_cons_succ, List.set_cons_zero]
        refine take_at (i := 26) (d := 146) (oi := ?o74) (v := ?v74) ?hi74 ?hd74 (by kernel_rfl) (by kernel_rfl) (by kernel_rfl) ?hw74 ?hy74 ?hq74 (by assumption) ?r74
        case hi74 => (simp only [List.getElem?_toArray, List.getElem?_cons_succ, List.getElem?_cons_zero]; rfl)
        case hd74 => rfl
        case hw74 => rfl
        case hy74 => ((intro w hSw; (try dsimp only at hSw); have hcs := DBox.cells (Z6.out _ hSw); obtain ⟨k0, k1, k2, k3, k4⟩ := hcs; go_simp) <;> (with_reducible rfl))
        case hq74 => exact fun _ _ _ h => h
        simp only [List.set_cons_succ, List.set_cons_zero]
        refine call_at (i := 25) (d := 145) (oi := ?o75) (f := ?f75) (args := ?a75) ?hi75 ?hd75 (by kernel_rfl) ?hw75 ?he75 ?hc75
        case hi75 => (simp only [List.getElem?_toArray, List.getElem?_cons_succ, List.getElem?_cons_zero]; rfl)
        case hd75 => rfl
        case hw75 => rfl
        case he75 => (go_simp; constructor <;> with_reducible rfl)
        refine Calls.mono (own_step (Z6.out _ hHeld).dat HR.out (by omega)) ?_
        rintro e v9 ⟨⟨A8, n8, c8, B8, m8, k8, rfl, g8⟩, hb1⟩
        have kb := below_on hHeld hb1
        clear hHeld hb1
        refine ⟨_, rfl, kb, fun hHeld => ?_⟩
        simp only [List.set_cons_succ, List.set_cons_zero]
        refine call_at (i := 27) (d := 147) (oi := ?o76) (f := ?f76) (args := ?a76) ?hi76 ?hd76 (by kernel_rfl) ?hw76 ?he76 ?hc76
        case hi76 => (simp only [List.getElem?_toArray, List.getElem?_cons_succ, List.getElem?_cons_zero]; rfl)
        case hd76 => rfl
        case hw76 => rfl
        case he76 => (go_simp; constructor <;> with_reducible rfl)
        refine Calls.mono (same_yes g8 (Z6.out _ hHeld).dat HR.out (by omega)) ?_
        rintro e v10 ⟨rfl, hb1⟩
        clear g8
        have kb := below_on hHeld hb1
        clear hHeld hb1
        refine ⟨_, rfl, kb, fun hHeld => ?_⟩
        simp only [List.set_cons_succ, List.set_cons_zero]
        refine take_at (i := 28) (d := 148) (oi := ?o77) (v := ?v77) ?hi77 ?hd77 (by kernel_rfl) (by kernel_rfl) (by kernel_rfl) ?hw77 ?hy77 ?hq77 (by assumption) ?r77
        case hi77 => (simp only [List.getElem?_toArray, List.getElem?_cons_succ, List.getElem?_cons_zero]; rfl)
        case hd77 => rfl
        case hw77 => rfl
        case hy77 => ((intro w hSw; (try dsimp only at hSw); go_simp) <;> (with_reducible rfl))
        case hq77 => exact fun _ _ _ h => h
        simp only [List.set_cons_succ, List.set_cons_zero]
        refine take_at (i := 29) (d := 149) (oi := ?o78) (v := ?v78) ?hi78 ?hd78 (by kernel_rfl) (by kernel_rfl) (by kernel_rfl) ?hw78 ?hy78 ?hq78 (by assumption) ?r78
        case hi78 => (simp only [List.getElem?_toArray, List.getElem?_cons_succ, List.getElem?_cons_zero]; rfl)
        case hd78 => rfl
        case hw78 => rfl
        case hy78 => ((intro w hSw; (try dsimp only at hSw); go_simp) <;> (with_reducible rfl))
        case hq78 => exact fun _ _ _ h => h
        simp only [List.set_cons_succ, List.set_cons_zero]
        refine take_at (i := 30) (d := 150) (oi := ?o79) (v := ?v79) ?hi79 ?hd79 (by kernel_rfl) (by kernel_rfl) (by kernel_rfl) ?hw79 ?hy79 ?hq79 (by assumption) ?r79
        case hi79 => (simp only [List.getElem?_toArray, List.getElem?_cons_succ, List.getElem?_cons_zero]; rfl)
        case hd79 => rfl
        case hw79 => rfl
        case hy79 => ((intro w hSw; (try dsimp only at hSw); go_simp) <;> (with_reducible rfl))
        case hq79 => exact fun _ _ _ h => h
        simp only [List.set_cons_succ, List.set_cons_zero]
        refine take_at (i := 32) (d := 152) (oi := ?o80) (v := ?v80) ?hi80 ?hd80 (by kernel_rfl) (by kernel_rfl) (by kernel_rfl) ?hw80 ?hy80 ?hq80 (by assumption) ?r80
        case hi80 => (simp only [List.getElem?_toArray, List.getElem?_cons_succ, List.getElem?_cons_zero]; rfl)
        case hd80 => rfl
        case hw80 => rfl
        case hy80 => ((intro w hSw; (try dsimp only at hSw); go_simp) <;> (with_reducible rfl))
        case hq80 => exact fun _ _ _ h => h
        simp only [List.set_cons_succ, List.set_cons_zero]
        refine call_at (i := 31) (d := 151) (oi := ?o81) (f := ?f81) (args := ?a81) ?hi81 ?hd81 (by kernel_rfl) ?hw81 ?he81 ?hc81
        case hi81 => (simp only [List.getElem?_toArray, List.getElem?_cons_succ, List.getElem?_cons_zero]; rfl)
        case hd81 => rfl
        case hw81 => rfl
        case he81 => (go_simp; constructor <;> with_reducible rfl)
        refine Calls.mono (dev_new keep _) ?_
        rintro e v11 ⟨rfl, hb1⟩
        have kb := below_on hHeld hb1
        clear hHeld hb1
        refine ⟨_, rfl, kb, fun hHeld => ?_⟩
        simp only [List.set_cons_succ, List.set_cons_zero]
        refine call_at (i := 33) (d := 153) (oi := ?o82) (f := ?f82) (args := ?a82) ?hi82 ?hd82 (by kernel_rfl) ?hw82 ?he82 ?hc82
        case hi82 => (simp only [List.getElem?_toArray, List.getElem?_cons_succ, List.getElem?_cons_zero]; rfl)
        case hd82 => rfl
        case hw82 => rfl
        case he82 => (go_simp; constructor <;> with_reducible rfl)
        refine Calls.mono (new_any keep _) ?_
        rintro e v12 ⟨rfl, hb1⟩
        have kb := below_on hHeld hb1
        clear hHeld hb1
        refine ⟨_, rfl, kb, fun hHeld => ?_⟩
        simp only [List.set_cons_succ, List.set_cons_zero]
        refine call_at (i := 34) (d := 154) (oi := ?o83) (f := ?f83) (args := ?a83) ?hi83 ?hd83 (by kernel_rfl) ?hw83 ?he83 ?hc83
        case hi83 => (simp only [List.getElem?_toArray, List.getElem?_cons_succ, List.getElem?_cons_zero]; rfl)
        case hd83 => rfl
        case hw83 => rfl
        case he83 => (go_simp; constructor <;> with_reducible rfl)
        refine Calls.mono (same_both (D := ⟨[], [], max keep 0, 0, false⟩) (at_none _ _ _ _) (at_none _ _ _ _) (by simp) (by simp)) ?_
        rintro e v13 ⟨rfl, hb1⟩
        have kb := below_on hHeld hb1
        clear hHeld hb1
        refine ⟨_, rfl, kb, fun hHeld => ?_⟩
        simp only [List.set_cons_succ, List.set_cons_zero]
        refine take_at (i := 35) (d := 155) (oi := ?o84) (v := ?v84) ?hi84 ?hd84 (by kernel_rfl) (by kernel_rfl) (by kernel_rfl) ?hw84 ?hy84 ?hq84 (by assumption) ?r84
        case hi84 => (simp only [List.getElem?_toArray, List.getElem?_cons_succ, List.getElem?_cons_zero]; rfl)
        case hd84 => rfl
        case hw84 => rfl
        case hy84 => ((intro w hSw; (try dsimp only at hSw); go_simp) <;> (with_reducible rfl))
        case hq84 => exact fun _ _ _ h => h
        simp only [List.set_cons_succ, List.set_cons_zero]
        refine take_at (i := 36) (d := 156) (oi := ?o85) (v := ?v85) ?hi85 ?hd85 (by kernel_rfl) (by kernel_rfl) (by kernel_rfl) ?hw85 ?hy85 ?hq85 (by assumption) ?r85
        case hi85 => (simp only [List.getElem?_toArray, List.getElem?_cons_succ, List.getElem?_cons_zero]; rfl)
        case hd85 => rfl
        case hw85 => rfl
        case hy85 => ((intro w hSw; (try dsimp only at hSw); go_simp) <;> (with_reducible rfl))
        case hq85 => exact fun _ _ _ h => h
        simp only [List.set_cons_succ, List.set_cons_zero]
        refine call_at (i := 37) (d := 157) (oi := ?o86) (f := ?f86) (args := ?a86) ?hi86 ?hd86 (by kernel_rfl) ?hw86 ?he86 ?hc86
        case hi86 => (simp only [List.getElem?_toArray, List.getElem?_cons_succ, List.getElem?_cons_zero]; rfl)
        case hd86 => rfl
        case hw86 => rfl
        case he86 => (go_simp; constructor <;> with_reducible rfl)
        refine Calls.mono (HW.out _) ?_
        rintro e v14 ⟨rfl, hb1⟩
        have kb := below_on hHeld hb1
        clear hHeld hb1
        refine ⟨_, rfl, kb, fun hHeld => ?_⟩
        simp only [List.set_cons_succ, List.set_cons_zero]
        refine take_at (i := 38) (d := 158) (oi := ?o87) (v := ?v87) ?hi87 ?hd87 (by kernel_rfl) (by kernel_rfl) (by kernel_rfl) ?hw87 ?hy87 ?hq87 (by assumption) ?r87
        case hi87 => (simp only [List.getElem?_toArray, List.getElem?_cons_succ, List.getElem?_cons_zero]; rfl)
        case hd87 => rfl
        case hw87 => rfl
        case hy87 => ((intro w hSw; (try dsimp only at hSw); go_simp) <;> (with_reducible rfl))
        case hq87 => exact fun _ _ _ h => h
        simp only [List.set_cons_succ, List.set_cons_zero]
        refine take_at (i := 39) (d := 12) (oi := ?o88) (v := ?v88) ?hi88 ?hd88 (by kernel_rfl) (by kernel_rfl) (by kernel_rfl) ?hw88 ?hy88 ?hq88 (by assumption) ?r88
        case hi88 => (simp only [List.getElem?_toArray, List.getElem?_cons_succ, List.getElem?_cons_zero]; rfl)
        case hd88 => rfl
        case hw88 => rfl
        case hy88 => ((intro w hSw; (try dsimp only at hSw); go_simp) <;> (with_reducible rfl))
        case hq88 => exact fun _ _ _ h => h
        simp only [List.set_cons_succ, List.set_cons_zero]
        refine wpAnyH_done (by kernel_rfl) ?_ _
        go_wp2_with fail
        go_ret
        exact ⟨rfl, HB3.out.trans (hHeld.mono HB3.out.size)⟩
end Go.Proofs.Ytmfiopopiikbmaa
