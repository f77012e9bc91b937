/-
  The developers' refusal: its contract.
-/
import Derived.Test.YtmfiopopiikbmaaDevN
namespace Go.Proofs.Ytmfiopopiikbmaa
open Go.RowKit Go.Maps

/-- The slice of one operation that a call's argument list makes. -/
theorem os_one {W : World} {o : OpM} (hp : o.p.Ok W W.heap.size) (hk : 0 ≤ o.kind ∧ o.kind ≤ 255) {g : Nat} (hg : g = W.heap.size) :
    Os (W.alloc (.cells #[.int .u8 o.kind, .string o.name, .string o.to, .slice o.p.A o.p.n o.p.c] 28)) (W.alloc (.cells #[.int .u8 o.kind, .string o.name, .string o.to, .slice o.p.A o.p.n o.p.c] 28)).heap.size (some ⟨g, 0, none⟩) 1 [o] := by
  subst hg
  refine ⟨⟨rfl, fun _ => ⟨W.heap.size, 0, rfl, by simp, fun i x hx j hj => ?_⟩⟩, fun x hx => ?_⟩
  · have hi : i = 0 := by
      have := (List.getElem?_eq_some_iff.1 hx).1
      simp at this
      omega
    subst hi
    simp at hx
    subst hx
    rw [cell_of_row _ _ _ _ _ _ (World.alloc_heap_new W _)]
    rcases (by omega : j = 0 ∨ j = 1 ∨ j = 2 ∨ j = 3) with rfl | rfl | rfl | rfl <;> rfl
  · obtain rfl := List.mem_singleton.1 hx
    exact ⟨hp.on ((Below.refl _ W).alloc (Nat.le_refl _) _) (by simp), hk⟩
theorem look_nil (w : World) {s : ByteArray} (hs : s.size ≤ maxLen) : (Instr.lookup 59 (.map none) (.string s) true).run Try.prog w = .ok (.tuple #[.slice none 0 0, .bool false]) w :=
  Maps.look_nil true text_keyed Try.underlying59 (zero_row w) (key_text hs)
theorem look_there {fs : List FileM} {d : DiskP} {s : ByteArray} (hp : fs.map FileM.pure = nowP d) : (lookM fs s).isSome = true ↔ ¬ findG FileP.name (nowP d) s < 0 := by
  have h := find_look (fs := fs) (s := s)
  rw [hp] at h
  cases hl : lookM fs s with
  | none => simp [h.1.2 hl]
  | some f => simp; exact Int.not_lt.1 fun hc => by have := h.1.1 hc; rw [hl] at this; cases this

set_option maxRecDepth 100000 in
set_option maxHeartbeats 4000000 in
theorem dev_refusal {w : World} {fl : List FileP} {qu : List OpP} {q u : Int} {dd : Bool} {A : Option Addr} {n c : Nat} {B : Option Addr} {m k : Nat} (o : OpM) (h : DAt w ⟨fl, qu, q, u, dd⟩ A n c B m k) (hs : Small ⟨fl, qu, q, u, dd⟩) (hn : Nms ⟨fl, qu, q, u, dd⟩)
    (ho : o.p.Ok w w.heap.size) (hok : 0 ≤ o.kind ∧ o.kind ≤ 255) (hon : o.p.n ≤ 1048576) (hos : o.name.size ≤ maxLen) :
    Calls Try.prog 31 #[.agg #[.slice A n c, .slice B m k, .int .i64 q, .int .i64 u, .bool dd], .agg #[.int .u8 o.kind, .string o.name, .string o.to, .slice o.p.A o.p.n o.p.c]] w fun e w' =>
      e = .returned (.int .i64 (doP ⟨fl, qu, q, u, dd⟩ o.pure).2) ∧ Below w.heap.size w w' := by
  have Hs := Lib.hid hs
  have Hn := Lib.hid hn
  have Hlq := Lib.hid h.len.2
  clear hs hn
  go_enter Try.func31, Try.ntmps31
  go_wp2_with fail
  obtain ⟨z, hz⟩ : ∃ z, z = w.heap.size := ⟨_, rfl⟩
  obtain ⟨wa, hwa⟩ : ∃ wa, wa = w.alloc (.cells #[.slice A n c, .slice B m k, .int .i64 q, .int .i64 u, .bool dd] 25) := ⟨_, rfl⟩
  obtain ⟨w0, hw0⟩ : ∃ w0, w0 = wa.alloc (.cells #[.int .u8 o.kind, .string o.name, .string o.to, .slice o.p.A o.p.n o.p.c] 28) := ⟨_, rfl⟩
  have hsa : wa.heap.size = z + 1 := by rw [hwa, hz]; simp
  have hBa : Below w.heap.size w wa := by rw [hwa]; exact (Below.refl _ _).alloc (Nat.le_refl _) _
  have hB0 : Below w.heap.size w w0 := by rw [hw0]; exact hBa.alloc hBa.size _
  have bz0 : Box5 w0 z 25 (.slice A n c) (.slice B m k) (.int .i64 q) (.int .i64 u) (.bool dd) := by
    have h1 : Box5 wa z 25 (.slice A n c) (.slice B m k) (.int .i64 q) (.int .i64 u) (.bool dd) := by rw [hwa, hz]; exact World.alloc_heap_new w _
    exact h1.below (by rw [hw0]; exact (Below.refl _ _).alloc (Nat.le_refl _) _)
  have by0 : Box4 w0 (z + 1) o := by rw [hw0, ← hsa]; exact World.alloc_heap_new wa _
  have he : w0 = (w.alloc (.cells #[.slice A n c, .slice B m k, .int .i64 q, .int .i64 u, .bool dd] 25)).alloc (.cells #[.int .u8 o.kind, .string o.name, .string o.to, .slice o.p.A o.p.n o.p.c] 28) := by rw [hw0, hwa]
  rw [← he, ← hz]
  have hop0 := ho.on hB0 hB0.size
  clear hwa hw0 he hsa hBa hz ho
  refine (dev_rightNow (h.on hB0) Hs.out Hn.out).mono ?_
  rintro e w1 ⟨hR, hb1⟩
  have hB1 : Below w.heap.size w w1 := hB0.trans (hb1.mono hB0.size)
  have bz1 := bz0.below hb1
  have by1 := by0.below hb1
  have hop1 := hop0.on hb1 hb1.size
  obtain ⟨⟨k0, k1, k2, k3, k4⟩, _⟩ := box5 bz1
  obtain ⟨⟨o0, o1, o2, o3⟩, _⟩ := box4 by1
  have hw0s := hB0.size
  clear bz0 by0 hb1 hop0 h hB0
  rcases hR with ⟨hr, rfl⟩ | ⟨hr, b, fs1, rfl, hF, hp⟩
  · have He := Lib.hid (do_wrong (o := o.pure) hr)
    have hlk := look_nil w1 hos
    clear hr
    go_wp2_with fail
    go_ret
    exact ⟨ret_int (by rw [He.out]), hB1⟩
  have r0 := hF.look_ok hos
  have hth := look_there (s := o.name) hp
  obtain ⟨v, hv⟩ : ∃ v, v = lookV fs1 o.name := ⟨_, rfl⟩
  obtain ⟨th, htn⟩ : ∃ th, th = (lookM fs1 o.name).isSome := ⟨_, rfl⟩
  rw [← hv, ← htn] at r0
  rw [← htn] at hth
  have HF := Lib.hid hF
  have Hp := Lib.hid hp
  have Hth := Lib.hid hth
  have Hr := Lib.hid hr
  clear hF hp hth hv htn hr
  by_cases hd : dd = true
  · subst hd
    have He := Lib.hid (do_dead (o := o.pure) Hr.out rfl)
    go_wp2_with fail
    go_ret
    exact ⟨ret_int (by rw [He.out]), hB1⟩
  have hdf : dd = false := by simpa using hd
  subst hdf
  clear hd
  go_wp2_with fail
  have bal : Below w1.heap.size w1 (w1.alloc (.cells #[.int .u8 o.kind, .string o.name, .string o.to, .slice o.p.A o.p.n o.p.c] 28)) := (Below.refl _ _).alloc (Nat.le_refl _) _
  refine (dev_rightOps (os_one hop1 hok rfl) (by omega)).mono ?_
  rintro e w2 ⟨⟨y, rfl, hy⟩, hb2⟩
  have b12 := bal.trans (hb2.mono bal.size)
  have hB2 : Below w.heap.size w w2 := hB1.trans (b12.mono hB1.size)
  have bz2 := bz1.below b12
  have by2 := by1.below b12
  have hop2 := hop1.on b12 b12.size
  have hF2 := HF.out.below b12
  clear k0 k1 k2 k3 k4 o0 o1 o2 o3 bal hb2 b12 r0 bz1 by1 hop1 hB1
  obtain ⟨⟨k0, k1, k2, k3, k4⟩, _⟩ := box5 bz2
  obtain ⟨⟨o0, o1, o2, o3⟩, _⟩ := box4 by2
  have Hfine := Lib.hid (show (∀ x ∈ [o].map OpM.pure, fineP x = true) ↔ fineP o.pure = true by simp)
  rw [Hfine.out] at hy
  cases y
  · have hff : fineP o.pure = false := bool_no fun h => by have := hy.2 h; cases this
    have He := Lib.hid (do_kind Hr.out rfl hff)
    clear hy hff
    go_wp2_with fail
    go_ret
    exact ⟨ret_int (by rw [He.out]), hB2⟩
  have Hft := Lib.hid (hy.1 rfl)
  clear hy
  by_cases h1 : o.kind = 1
  · have t1 : (o.kind == 1) = true := by simpa using h1
    have t1' : (o.kind != 1) = false := by simpa using h1
    have Hno1 := Lib.hid (show ¬ (o.pure.kind ≠ 1 ∧ findG FileP.name (nowP ⟨fl, qu, q, u, false⟩) o.pure.name < 0) from fun h => h.1 h1)
    have h2 : ¬ o.kind = 2 := by omega
    have t2 : (o.kind == 2) = false := by simpa using h2
    by_cases h4 : (m : Int) = 400
    · have t4 : ((m : Int) == 400) = true := by simpa using h4
      have He := Lib.hid (do_full Hr.out rfl Hft.out Hno1.out (.inr (by have := Hlq.out; show 400 ≤ qu.length; omega)))
      clear h1 h2 h4
      go_wp2_with fail
      go_quiet (fail)
      go_wp2_with fail
      go_ret
      exact ⟨ret_int (by rw [He.out]), by first | exact hB2 | exact below_drewN hB2 _⟩
    · have t4 : ((m : Int) == 400) = false := by simpa using h4
      have He := Lib.hid (do_done Hr.out rfl Hft.out Hno1.out (fun h => by
        rcases h with ⟨h, _⟩ | h
        · exact h2 h
        · have h5 : 400 ≤ qu.length := h
          have h6 : qu.length ≤ 400 := ((right_iff _).1 Hr.out).2.2.1
          have := Hlq.out
          omega))
      clear h1 h2 h4
      go_wp2_with fail
      go_quiet (fail)
      go_wp2_with fail
      go_ret
      exact ⟨ret_int (by rw [He.out]), by first | exact hB2 | exact below_drewN hB2 _⟩
  have t1 : (o.kind == 1) = false := by simpa using h1
  have t1' : (o.kind != 1) = true := by simpa using h1
  cases th
  · have hfd : findG FileP.name (nowP ⟨fl, qu, q, u, false⟩) o.name < 0 := by
      cases Int.lt_or_le (findG FileP.name (nowP ⟨fl, qu, q, u, false⟩) o.name) 0 with
      | inl h => exact h
      | inr h => have := Hth.out.2 (by omega); cases this
    have He := Lib.hid (do_file Hr.out rfl Hft.out (show o.pure.kind ≠ 1 from h1) hfd)
    clear h1 hfd
    go_wp2_with fail
    go_ret
    exact ⟨ret_int (by rw [He.out]), hB2⟩
  have Hno1 := Lib.hid (show ¬ (o.pure.kind ≠ 1 ∧ findG FileP.name (nowP ⟨fl, qu, q, u, false⟩) o.pure.name < 0) from fun h => by
    have h5 := Hth.out.1 rfl
    have h6 : findG FileP.name (nowP ⟨fl, qu, q, u, false⟩) o.name < 0 := h.2
    omega)
  by_cases h2 : o.kind = 2
  · have t2 : (o.kind == 2) = true := by simpa using h2
    obtain ⟨S, hS⟩ : ∃ S, S = sizeP (fs1.map FileM.pure) := ⟨_, rfl⟩
    have hsz : sizeP (fs1.map FileM.pure) ≤ 4611686018427387904 := by rw [Hp.out]; exact size_now Hs.out
    have Hu := Lib.hid (show usedP ⟨fl, qu, q, u, false⟩ = S by rw [hS, Hp.out]; rfl)
    obtain ⟨T, hT⟩ : ∃ T : Int, (S : Int) + (o.p.n : Int) = T := ⟨_, rfl⟩
    have hw : IntKind.i64.wrap ((S : Int) + (o.p.n : Int)) = T := by rw [← hT, IntKind.wrap_i64] <;> omega
    have Hcells := Lib.hid (show ∀ W, Below w2.heap.size w2 W → Below w2.heap.size w2 W ∧ W.cell? ⟨z, 2, none⟩ = some (.int .i64 q) ∧ W.cell? ⟨z + 1, 0, none⟩ = some (.int .u8 o.kind) ∧ W.cell? ⟨z + 1, 3, none⟩ = some (.slice o.p.A o.p.n o.p.c) from fun W hW => by
      obtain ⟨⟨_, _, a2, _⟩, _⟩ := box5 (bz2.below hW)
      obtain ⟨⟨a3, _, _, a4⟩, _⟩ := box4 (by2.below hW)
      exact ⟨hW, a2, a3, a4⟩)
    have HF2 := Lib.hid hF2
    have Hsz := Lib.hid hsz
    have HS := Lib.hid hS
    have HB2 := Lib.hid hB2
    have Hop2 := Lib.hid (show o.p.l.length = o.p.n from hop2.rd.1)
    have H2 := Lib.hid h2
    have HT := Lib.hid hT
    clear hF2 hsz hS hop2 h2 hT hB2 h1
    go_wp2_with fail
    go_region_held3 (fun W => Below w2.heap.size w2 W ∧ W.cell? ⟨z, 2, none⟩ = some (.int .i64 q) ∧ W.cell? ⟨z + 1, 0, none⟩ = some (.int .u8 o.kind) ∧ W.cell? ⟨z + 1, 3, none⟩ = some (.slice o.p.A o.p.n o.p.c))
      (exact Hcells.out _ (by first | exact Below.refl _ _ | exact (Below.refl _ _).drew | assumption | exact And.left (by assumption)))
      (first
        | (go_at_call 51; (with_reducible refine (used_held2 (w := w2) HF2.out (Below.refl _ _).drew Hsz.out).mono ?_); rintro e w4 ⟨rfl, hS4⟩; rw [← HS.out]))
    have hB4 : Below w.heap.size w w4 := HB2.out.trans (hS4.mono HB2.out.size)
    obtain ⟨⟨c0, c1, c2, c3, c4⟩, _⟩ := box5 (bz2.below hS4)
    have Hl : Hid (o.pure.bytes.length = o.p.n) := Lib.hid Hop2.out
    by_cases hq : q < T
    · have tq : decide (q < T) = true := by simpa using hq
      have He := Lib.hid (do_full Hr.out rfl Hft.out Hno1.out (.inl ⟨H2.out, by have a := Hu.out; have b := Hl.out; have c := HT.out; rw [a, b]; show q < _; omega⟩))
      rw [tq]
      clear hq
      go_wp2_with fail
      go_ret
      exact ⟨ret_int (by rw [He.out]), hB4⟩
    have tq : decide (q < T) = false := by simpa using hq
    rw [tq]
    by_cases h4 : (m : Int) = 400
    · have t4 : ((m : Int) == 400) = true := by simpa using h4
      have He := Lib.hid (do_full Hr.out rfl Hft.out Hno1.out (.inr (by have := Hlq.out; show 400 ≤ qu.length; omega)))
      clear h4 hq
      go_wp2_with fail
      go_ret
      exact ⟨ret_int (by rw [He.out]), hB4⟩
    · have t4 : ((m : Int) == 400) = false := by simpa using h4
      have He := Lib.hid (do_done Hr.out rfl Hft.out Hno1.out (fun h => by
        rcases h with ⟨_, h⟩ | h
        · have a := Hu.out
          have b := Hl.out
          have c := HT.out
          rw [a, b] at h
          have h' : q < (S : Int) + (o.p.n : Int) := h
          omega
        · have h5 : 400 ≤ qu.length := h
          have h6 : qu.length ≤ 400 := ((right_iff _).1 Hr.out).2.2.1
          have := Hlq.out
          omega))
      clear h4 hq
      go_wp2_with fail
      go_ret
      exact ⟨ret_int (by rw [He.out]), hB4⟩
  · have t2 : (o.kind == 2) = false := by simpa using h2
    by_cases h4 : (m : Int) = 400
    · have t4 : ((m : Int) == 400) = true := by simpa using h4
      have He := Lib.hid (do_full Hr.out rfl Hft.out Hno1.out (.inr (by have := Hlq.out; show 400 ≤ qu.length; omega)))
      clear h1 h2 h4
      go_wp2_with fail
      go_quiet (fail)
      go_wp2_with fail
      go_ret
      exact ⟨ret_int (by rw [He.out]), by first | exact hB2 | exact below_drewN hB2 _⟩
    · have t4 : ((m : Int) == 400) = false := by simpa using h4
      have He := Lib.hid (do_done Hr.out rfl Hft.out Hno1.out (fun h => by
        rcases h with ⟨h, _⟩ | h
        · exact h2 h
        · have h5 : 400 ≤ qu.length := h
          have h6 : qu.length ≤ 400 := ((right_iff _).1 Hr.out).2.2.1
          have := Hlq.out
          omega))
      clear h1 h2 h4
      go_wp2_with fail
      go_quiet (fail)
      go_wp2_with fail
      go_ret
      exact ⟨ret_int (by rw [He.out]), by first | exact hB2 | exact below_drewN hB2 _⟩

end Go.Proofs.Ytmfiopopiikbmaa
