/-
  snap.Again: its contract.
-/
import Derived.Test.YtdggacabjlengaaDoorTake9
namespace Go.Proofs.YtdggacabjlengaaDoor
open Go.RowKit
set_option linter.unusedVariables false
set_option linter.unusedSimpArgs false

set_option maxRecDepth 100000 in
set_option maxHeartbeats 1000000 in
theorem Again_any (A : Option Addr) (n c : Nat) (b : List Int) (f t : Int) (w : World) (hT : Cr.Tab w) (hl : Rd w w.heap.size .u8 A n b) (hb : Byt b) (hnc : n ≤ c) (hn : n ≤ 1000000) :
    Calls Tryd.prog 18 #[.slice A n c, .int .i64 f, .int .i64 t] w (AgainT b f t w) := by
  have HT := Lib.hid hT
  have HK := Lib.hid (Take_any A n c b f w hT hl hb hnc hn)
  clear hT hl hb
  go_enter Tryd.func18, Tryd.ntmps18
  go_wp2_with fail
  refine Calls.mono HK.out ?_
  rintro e w1 ⟨⟨s, er, hs, rfl⟩, hb1⟩
  obtain ⟨z, hz⟩ : ∃ z, z = w1.heap.size := ⟨_, rfl⟩
  obtain ⟨w2, hw2⟩ : ∃ x, x = w1.alloc (.cells #[.int .i64 s.ix, .int .i64 s.tm, .int .i64 s.sm, .int .i64 s.lv, .bool s.fn] 23) := ⟨_, rfl⟩
  have b2 : BoxS w2 z s := by rw [hw2, hz]; exact BoxS.new w1 s
  have hB2 : Below w.heap.size w w2 := by rw [hw2]; exact hb1.alloc hb1.size _
  obtain ⟨k0, k1, k2, k3, k4⟩ := b2.cells
  unfold StP.v
  have hsd : TakeIs b f s er := hs
  by_cases h0 : er = 0
  · subst h0
    have hPut : Calls Tryd.prog 9 #[.agg #[.int .i64 s.ix, .int .i64 s.tm, .int .i64 s.sm, .int .i64 s.lv, .bool s.fn], .int .i64 t] w2 (Told w2 (putP s t)) := Put_any s t w2 (HT.out.on hB2)
    have H := Lib.hid (⟨hw2, hz, hB2, hs, hPut⟩ : _ ∧ _ ∧ _ ∧ _ ∧ _)
    rw [hw2, hz] at k0 k1 k2 k3 k4
    clear hw2 hz b2 hB2 hs hsd hPut hb1
    go_wp2_with fail
    rw [← H.out.1]
    refine Calls.mono H.out.2.2.2.2 ?_
    rintro e w3 ⟨⟨A3, c3, rfl, hc3, hr3⟩, hb3⟩
    obtain ⟨R, hR⟩ : ∃ R, R = (putP s t).1 := ⟨_, rfl⟩
    obtain ⟨er, her⟩ : ∃ er, er = (putP s t).2 := ⟨_, rfl⟩
    rw [← hR] at hc3 hr3 ⊢
    rw [← her]
    obtain ⟨q, hq⟩ : ∃ q, R.length = q := ⟨_, rfl⟩
    rw [hq] at hc3 hr3 ⊢
    have H3 := Lib.hid (⟨hc3, hr3, hb3, hR, her, hq⟩ : _ ∧ _ ∧ _ ∧ _ ∧ _ ∧ _)
    clear hc3 hr3 hb3 hR her hq
    go_wp2_with fail
    go_ret2
    obtain ⟨hc3, hr3, hb3, hR, her, hq⟩ := H3.out
    exact ⟨(R, er), ⟨s, 0, H.out.2.2.2.1, .inr ⟨rfl, by rw [hR, her]⟩⟩, ⟨⟨A3, c3, by rw [← hq]; rfl, by rw [hq]; exact hc3, by rw [hq]; exact hr3⟩, H.out.2.2.1.trans (hb3.mono H.out.2.2.1.size)⟩⟩
  · have e0 : (er != 0) = true := by simpa using h0
    have H := Lib.hid (⟨hB2, hs, h0, hw2⟩ : _ ∧ _ ∧ _ ∧ _)
    rw [hw2, hz] at k0 k1 k2 k3 k4
    clear hw2 hz b2 hB2 hs hsd hb1 h0
    go_wp2_with fail
    go_ret2
    rw [← H.out.2.2.2]
    exact ⟨([], er), ⟨s, er, H.out.2.1, .inl ⟨H.out.2.2.1, rfl⟩⟩, ⟨⟨none, 0, rfl, Nat.le_refl _, Rd.nil⟩, H.out.1⟩⟩

end Go.Proofs.YtdggacabjlengaaDoor
