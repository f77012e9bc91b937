/-
  names.apart: its contract.
-/
import Derived.Test.YtbfdjjkphmchgaaDoorApartP
import Derived.Test.YtbfdjjkphmchgaaDoorLabels
import Derived.BigRegion
import Derived.RegionTactic
import Derived.StillTailTactics
namespace Go.Proofs.YtbfdjjkphmchgaaDoor
open Go.RowKit Go.Maps

/-- It is none of those that are told apart at once. -/
def Long (bs : List UInt8) : Prop := bs ≠ [] ∧ bs ≠ [77] ∧ bs ≠ [77, 46, 110, 101, 119]
/-- The byte at a place. -/
def byI (bs : List UInt8) (i : Nat) : Int := ((bs[i]?.getD 0).toNat : Int)
theorem byI_ok (bs : List UInt8) (i : Nat) : 0 ≤ byI bs i ∧ byI bs i ≤ 255 := by
  have := (bs[i]?.getD 0).toNat_lt
  unfold byI
  omega
theorem idx_run (nm : ByteArray) (i : Nat) (j : Int) (hj : j = (i : Int)) (hi : i < nm.size) (w : World) : (Instr.index 9 (.string nm) (.int .i64 j)).run Tryd.prog w = .ok (.int .u8 (byI nm.data.toList i)) w := by
  subst hj
  have h1 : i < nm.data.size := hi
  have h2 : byI nm.data.toList i = (nm[i].toNat : Int) := by
    unfold byI
    rw [show nm.data.toList[i]? = some nm[i] from by rw [Array.getElem?_toList, Array.getElem?_eq_getElem h1]; rfl]
    rfl
  rw [h2]
  go_simp
theorem apart_long {bs : List UInt8} (h : Long bs) : apartF bs = ⟨kindP (byI bs 0), (digs bs).foldl stepD 0, fmtF bs⟩ := by
  unfold apartF
  rw [if_neg h.1, if_neg h.2.1, if_neg h.2.2]
  rfl
theorem dig_get {bs : List UInt8} {i : Nat} {c : UInt8} (h : (digs bs)[i]? = some c) : bs[i + 1]? = some c ∧ isDig c = true := by
  obtain ⟨h1, h2⟩ := takeWhile_at isDig (bs.drop 1) i c h
  rw [List.getElem?_drop, Nat.add_comm] at h1
  exact ⟨h1, h2⟩
theorem dig_go {bs : List UInt8} {p : Nat} {S : Int} (h1 : 1 ≤ p) (h2 : p ≤ (digs bs).length) (hS : S = ((digs bs).take (p - 1)).foldl stepD 0) :
    p < bs.length ∧ 48 ≤ byI bs p ∧ byI bs p ≤ 57 ∧ ((digs bs).take p).foldl stepD 0 = IntKind.i64.wrap (IntKind.i64.wrap (S * 10) + (byI bs p - 48)) := by
  obtain ⟨i, rfl⟩ : ∃ i, p = i + 1 := ⟨p - 1, by omega⟩
  have hg : (digs bs)[i]? = some (digs bs)[i] := List.getElem?_eq_getElem (by omega)
  obtain ⟨g1, g2⟩ := dig_get hg
  obtain ⟨hlt, _⟩ := List.getElem?_eq_some_iff.1 g1
  have hb : byI bs (i + 1) = ((digs bs)[i].toNat : Int) := by unfold byI; rw [g1]; rfl
  unfold isDig at g2
  rw [Bool.and_eq_true, decide_eq_true_eq, decide_eq_true_eq] at g2
  refine ⟨hlt, by omega, by omega, ?_⟩
  rw [List.take_add_one, hg, List.foldl_append]
  rw [show i + 1 - 1 = i by omega] at hS
  rw [← hS, hb]
  rfl
theorem dig_end {bs : List UInt8} {p : Nat} (h : p = (digs bs).length + 1) (hlt : p < bs.length) : byI bs p < 48 ∨ 57 < byI bs p := by
  have hg : bs[p]? = some bs[p] := List.getElem?_eq_getElem hlt
  have h1 : (bs.drop 1)[((bs.drop 1).takeWhile isDig).length]? = some bs[p] := by
    rw [List.getElem?_drop, ← hg]
    rw [h, Nat.add_comm]
    rfl
  have h2 := takeWhile_end isDig (bs.drop 1) _ h1
  have hb : byI bs p = ((bs[p].toNat : Nat) : Int) := by unfold byI; rw [hg]; rfl
  unfold isDig at h2
  rw [hb]
  by_cases h3 : 48 ≤ bs[p].toNat
  · by_cases h4 : bs[p].toNat ≤ 57
    · simp [h3, h4] at h2
    · omega
  · omega
theorem fmt_yes {bs : List UInt8} {p : Nat} (h : p = (digs bs).length + 1) (h1 : p + 2 = bs.length) (h2 : byI bs p = 46) : fmtF bs = IntKind.u8.wrap (byI bs (p + 1) - 48) := by
  subst h
  unfold fmtF
  rw [if_pos]
  · rfl
  · refine ⟨by omega, ?_⟩
    unfold byI at h2
    apply UInt8.toNat_inj.1
    show _ = 46
    omega
theorem fmt_no {bs : List UInt8} {p : Nat} (h : p = (digs bs).length + 1) (h1 : ¬ (p + 2 = bs.length ∧ byI bs p = 46)) : fmtF bs = 0 := by
  subst h
  unfold fmtF
  rw [if_neg]
  rintro ⟨a, b⟩
  apply h1
  refine ⟨by omega, ?_⟩
  unfold byI
  rw [b]
  rfl
def AJ1 (w : World) (nm : ByteArray) (z : Nat) (a : Act) (W : World) : Prop :=
  ∃ (p : Nat) (u4 u5 u6 u7 u8 u9 u10 u11 u12 u13 u14 u15 u16 u17 u18 u19 u20 u21 u22 u23 u24 u25 u26 u27 u28 u29 u30 u31 u32 u33 u34 u35 u36 u37 u38 u39 u40 u41 u42 u43 u44 u45 u46 u47 u48 u49 u50 u51 u52 u53 u54 u55 u56 u57 u58 u59 u60 u61 u62 u63 : Value), 1 ≤ p ∧ p ≤ (digs nm.data.toList).length + 1 ∧ BoxI W z ⟨kindP (byI nm.data.toList 0), ((digs nm.data.toList).take (p - 1)).foldl stepD 0, 0⟩ ∧ Below w.heap.size w W ∧ Long nm.data.toList ∧ a = { tmps := #[.string nm, undef, .pointer (some ⟨z, 0, none⟩), .int .i64 (p : Int), u4, u5, u6, u7, u8, u9, u10, u11, u12, u13, u14, u15, u16, u17, u18, u19, u20, u21, u22, u23, u24, u25, u26, u27, u28, u29, u30, u31, u32, u33, u34, u35, u36, u37, u38, u39, u40, u41, u42, u43, u44, u45, u46, u47, u48, u49, u50, u51, u52, u53, u54, u55, u56, u57, u58, u59, u60, u61, u62, u63], defers := [] }
def AJ0 (w : World) (nm : ByteArray) (z : Nat) (a : Act) (W : World) : Prop :=
  ∃ (u3 u4 u5 u6 u7 u8 u9 u10 u11 u12 u13 u14 u15 u16 u17 u18 u19 u20 u21 u22 u23 u24 u25 u26 u27 u28 u29 u30 u31 u32 u33 u34 u35 u36 u37 u38 u39 u40 u41 u42 u43 u44 u45 u46 u47 u48 u49 u50 u51 u52 u53 u54 u55 u56 u57 u58 u59 u60 u61 u62 u63 : Value), BoxI W z (apartF nm.data.toList) ∧ Below w.heap.size w W ∧ a = { tmps := #[.string nm, undef, .pointer (some ⟨z, 0, none⟩), u3, u4, u5, u6, u7, u8, u9, u10, u11, u12, u13, u14, u15, u16, u17, u18, u19, u20, u21, u22, u23, u24, u25, u26, u27, u28, u29, u30, u31, u32, u33, u34, u35, u36, u37, u38, u39, u40, u41, u42, u43, u44, u45, u46, u47, u48, u49, u50, u51, u52, u53, u54, u55, u56, u57, u58, u59, u60, u61, u62, u63], defers := [] }
theorem heap_set {W : World} {z i : Nat} {t : TypeId} {cs : Array Value} {fz : Nat × Nat} (h : W.heap[z]? = some (.cells cs t fz)) (v : Value) : (W.setCell ⟨z, i, none⟩ v).heap[z]? = some (.cells (cs.setIfInBounds i v) t fz) := by
  obtain ⟨hlt, hk⟩ := Array.getElem?_eq_some_iff.1 h
  show (W.heap.modify z _)[z]? = _
  rw [Array.getElem?_eq_getElem (by rw [Array.size_modify]; exact hlt), Array.getElem_modify_self, hk]
  rfl
theorem BoxI.s0 {W : World} {z : Nat} {x : IdP} (h : BoxI W z x) (v : Int) : BoxI (W.setCell ⟨z, 0, none⟩ (.int .u8 v)) z ⟨v, x.seq, x.fmt⟩ := heap_set h _
theorem BoxI.s1 {W : World} {z : Nat} {x : IdP} (h : BoxI W z x) (v : Int) : BoxI (W.setCell ⟨z, 1, none⟩ (.int .i64 v)) z ⟨x.kind, v, x.fmt⟩ := heap_set h _
theorem BoxI.s2 {W : World} {z : Nat} {x : IdP} (h : BoxI W z x) (v : Int) : BoxI (W.setCell ⟨z, 2, none⟩ (.int .i64 v)) z ⟨x.kind, x.seq, v⟩ := heap_set h _

set_option maxRecDepth 100000 in
set_option maxHeartbeats 4000000 in
theorem apart_any (nm : ByteArray) (hn : nm.size ≤ 3000000000) (w : World) : Calls Tryd.prog 27 #[.string nm] w fun e w' => e = .returned (apartF nm.data.toList).v ∧ Below w.heap.size w w' := by
  go_enter Tryd.func27, Tryd.ntmps27
  go_wp2_with fail
  obtain ⟨z, hz⟩ : ∃ z, z = w.heap.size := ⟨_, rfl⟩
  obtain ⟨w0, hw0⟩ : ∃ w0, w0 = w.alloc (.cells #[.int .u8 0, .int .i64 0, .int .i64 0] 23) := ⟨_, rfl⟩
  have hB0 : Below w.heap.size w w0 := by rw [hw0]; exact below_al (below_d0 w) _
  have b0 : BoxI w0 z ⟨0, 0, 0⟩ := by rw [hw0, hz]; exact BoxI.new w ⟨0, 0, 0⟩
  rw [← hw0, ← hz]
  have Hz := Lib.hid (show w.heap.size ≤ z by omega)
  clear hw0 hz
  refine scope_two (AJ0 w nm z) (AJ1 w nm z) (fun a' _ => 1 + nm.size - (intOf (a'.tmps.getD 3 undef)).toNat) rfl rfl ?first ?pass1 ?pass0
  case first =>
    intro hrest
    obtain ⟨c0, c1, c2⟩ := b0.cells
    obtain ⟨f0, f1, f2⟩ := b0.frozen
    by_cases e0 : nm.data.toList = []
    · have t0 : nm.toList.isEmpty = true := by rw [ByteArray.toList_eq, e0]; rfl
      have HA := Lib.hid (show apartF nm.data.toList = ⟨0, 0, 0⟩ from by rw [e0]; rfl)
      clear e0
      go_wp2_with fail
      refine wp_goto (JTwo.zero ?_)
      exact ⟨_, _, _, _, _, _, _, _, _, _, _, _, _, _, _, _, _, _, _, _, _, _, _, _, _, _, _, _, _, _, _, _, _, _, _, _, _, _, _, _, _, _, _, _, _, _, _, _, _, _, _, _, _, _, _, _, _, _, _, _, _, by rw [HA.out]; exact b0, hB0, rfl⟩
    · have t0 : nm.toList.isEmpty = false := by
        rw [ByteArray.toList_eq]
        cases h : nm.data.toList with
        | nil => exact absurd h e0
        | cons _ _ => rfl
      by_cases e1 : nm.data.toList = [77]
      · have t1 : (nm.toList == [77]) = true := by rw [ByteArray.toList_eq, e1]; rfl
        have HA := Lib.hid (show apartF nm.data.toList = ⟨1, 0, 0⟩ from by rw [e1]; rfl)
        clear e0 e1
        go_wp2_with fail
        refine wp_goto (JTwo.zero ?_)
        exact ⟨_, _, _, _, _, _, _, _, _, _, _, _, _, _, _, _, _, _, _, _, _, _, _, _, _, _, _, _, _, _, _, _, _, _, _, _, _, _, _, _, _, _, _, _, _, _, _, _, _, _, _, _, _, _, _, _, _, _, _, _, _, by rw [HA.out]; exact b0.s0 1, hB0.setCell Hz.out _, rfl⟩
      · have t1 : (nm.toList == [77]) = false := by rw [ByteArray.toList_eq]; exact beq_eq_false_iff_ne.2 e1
        by_cases e2 : nm.data.toList = [77, 46, 110, 101, 119]
        · have t2 : (nm.toList == [77, 46, 110, 101, 119]) = true := by rw [ByteArray.toList_eq, e2]; rfl
          have HA := Lib.hid (show apartF nm.data.toList = ⟨2, 0, 0⟩ from by rw [e2]; rfl)
          clear e0 e1 e2
          go_wp2_with fail
          refine wp_goto (JTwo.zero ?_)
          exact ⟨_, _, _, _, _, _, _, _, _, _, _, _, _, _, _, _, _, _, _, _, _, _, _, _, _, _, _, _, _, _, _, _, _, _, _, _, _, _, _, _, _, _, _, _, _, _, _, _, _, _, _, _, _, _, _, _, _, _, _, _, _, by rw [HA.out]; exact b0.s0 2, hB0.setCell Hz.out _, rfl⟩
        · have t2 : (nm.toList == [77, 46, 110, 101, 119]) = false := by rw [ByteArray.toList_eq]; exact beq_eq_false_iff_ne.2 e2
          have hpos : 0 < nm.size := by
            show 0 < nm.data.size
            rw [← Array.length_toList]
            exact List.length_pos_iff.2 e0
          have HL := Lib.hid (show Long nm.data.toList from ⟨e0, e1, e2⟩)
          have hix := idx_run nm 0 0 rfl hpos
          clear e0 e1 e2
          go_wp2_with fail
          refine (kind_any _ (byI_ok _ _) _).mono ?_
          rintro e w2 ⟨rfl, hB2⟩
          have b2 := b0.below hB2
          replace hB2 := hB0.trans (hB2.mono hB0.size)
          clear c0 c1 c2 f0 f1 f2
          obtain ⟨c0, c1, c2⟩ := b2.cells
          obtain ⟨f0, f1, f2⟩ := b2.frozen
          go_wp2_with fail
          refine wp_label ?_
          rename_i hK
          refine hK _ _ (hrest _ _ ⟨1, _, _, _, _, _, _, _, _, _, _, _, _, _, _, _, _, _, _, _, _, _, _, _, _, _, _, _, _, _, _, _, _, _, _, _, _, _, _, _, _, _, _, _, _, _, _, _, _, _, _, _, _, _, _, _, _, _, _, _, _, by omega, by omega, b2.s0 _, hB2.setCell Hz.out _, HL.out, rfl⟩)
  case pass1 =>
    rintro a' wr ⟨p, u4, u5, u6, u7, u8, u9, u10, u11, u12, u13, u14, u15, u16, u17, u18, u19, u20, u21, u22, u23, u24, u25, u26, u27, u28, u29, u30, u31, u32, u33, u34, u35, u36, u37, u38, u39, u40, u41, u42, u43, u44, u45, u46, u47, u48, u49, u50, u51, u52, u53, u54, u55, u56, u57, u58, u59, u60, u61, u62, u63, hp1, hp2, b1, hB1, hL, rfl⟩ hp0
    obtain ⟨S, hS⟩ : ∃ S, S = ((digs nm.data.toList).take (p - 1)).foldl stepD 0 := ⟨_, rfl⟩
    rw [← hS] at b1
    obtain ⟨c0, c1, c2⟩ := b1.cells
    obtain ⟨f0, f1, f2⟩ := b1.frozen
    have hsz : nm.data.toList.length = nm.size := Array.length_toList
    have hDl : (digs nm.data.toList).length ≤ nm.size := by
      refine Nat.le_trans (takeWhile_len _ _) ?_
      rw [List.length_drop]
      omega
    by_cases hg : p ≤ (digs nm.data.toList).length
    · obtain ⟨g1, g2, g3, g4⟩ := dig_go hp1 hg hS
      have tlt : p < nm.size := by omega
      obtain ⟨c, hc⟩ : ∃ c, c = byI nm.data.toList p := ⟨_, rfl⟩
      have hix := idx_run nm p p rfl (by omega)
      rw [← hc] at hix g2 g3 g4
      have tge : (48 : Int) ≤ c := by omega
      have tle : c ≤ (57 : Int) := by omega
      have hw1 : IntKind.u8.wrap (c - 48) = c - 48 := by rw [IntKind.wrap_u8]; omega
      have hw2 : IntKind.i64.wrap (c - 48) = c - 48 := by rw [IntKind.wrap_i64] <;> omega
      obtain ⟨q, hq⟩ : ∃ q, q = p + 1 := ⟨_, rfl⟩
      have hw3 : IntKind.i64.wrap ((p : Int) + 1) = (q : Int) := by rw [IntKind.wrap_i64] <;> omega
      obtain ⟨S1, hS1⟩ : ∃ S1, S1 = IntKind.i64.wrap (S * 10) := ⟨_, rfl⟩
      rw [← hS1] at g4
      obtain ⟨S2, hS2⟩ : ∃ S2, S2 = IntKind.i64.wrap (S1 + (c - 48)) := ⟨_, rfl⟩
      rw [← hS2] at g4
      have HF := Lib.hid (⟨hp1, hp2, hg, hL, hsz, hDl, hB1, b1, hq, g1, g4, hS, hc⟩ : _ ∧ _ ∧ _ ∧ _ ∧ _ ∧ _ ∧ _ ∧ _ ∧ _ ∧ _ ∧ _ ∧ _ ∧ _)
      clear hp1 hp2 hg hL hsz hDl hB1 b1 hq g1 g4 hS hc g2 g3
      replace hS1 := hS1.symm
      replace hS2 := hS2.symm
      go_wp2_with fail
      go_still_tail 10, (by kernel_rfl)
      change wpList _ _ _ _ _ wr.drew
      go_wp2_with fail
      obtain ⟨hp1, hp2, hg, hL, hsz, hDl, hB1, b1, hq, g1, g4, hS, hc⟩ := HF.out
      refine wp_goto (?_ : JTwo (AJ0 w nm z) (fun a' w' => AJ1 w nm z a' w' ∧ 1 + nm.size - (intOf (a'.tmps.getD 3 undef)).toNat < 1 + nm.size - p) 1 _ _)
      refine JTwo.one ⟨⟨q, _, _, _, _, _, _, _, _, _, _, _, _, _, _, _, _, _, _, _, _, _, _, _, _, _, _, _, _, _, _, _, _, _, _, _, _, _, _, _, _, _, _, _, _, _, _, _, _, _, _, _, _, _, _, _, _, _, _, _, _, by omega, by omega, ?_, ?_, hL, rfl⟩, ?_⟩
      · have b2 := b1.s1 S2
        have e : q - 1 = p := by omega
        rw [e, g4]
        exact b2
      · exact (hB1.setCell Hz.out _).drew
      · show 1 + nm.size - q < 1 + nm.size - p
        omega
    · have hpe : p = (digs nm.data.toList).length + 1 := by omega
      have hS' : S = (digs nm.data.toList).foldl stepD 0 := by rw [hS, hpe, Nat.add_sub_cancel, List.take_length]
      have hA := apart_long hL
      rw [← hS'] at hA
      obtain ⟨x, hx⟩ : ∃ x, x = byI nm.data.toList p := ⟨_, rfl⟩
      obtain ⟨y, hy⟩ : ∃ y, y = byI nm.data.toList (p + 1) := ⟨_, rfl⟩
      by_cases hlt : p < nm.size
      · have hix := idx_run nm p p rfl hlt
        rw [← hx] at hix
        have hend := dig_end hpe (by omega)
        rw [← hx] at hend
        by_cases h48 : 48 ≤ x
        · have h57 : ¬ x ≤ 57 := by omega
          have hn46 : ¬ (p + 2 = nm.data.toList.length ∧ byI nm.data.toList p = 46) := by rw [← hx]; omega
          rw [fmt_no hpe hn46] at hA
          clear hn46 hend
          have HF := Lib.hid (⟨hp1, hp2, hg, hL, hsz, hDl, hB1, b1, hS, hx, hy, hpe, hA⟩ : _ ∧ _ ∧ _ ∧ _ ∧ _ ∧ _ ∧ _ ∧ _ ∧ _ ∧ _ ∧ _ ∧ _ ∧ _)
          clear hp1 hp2 hg hL hsz hDl hB1 b1 hS hx hy hpe hA hS'
          go_wp2_with fail
          all_goals
            refine wp_label ?_
            rename_i hK
            refine hK _ _ (hp0 _ _ _ ⟨_, _, _, _, _, _, _, _, _, _, _, _, _, _, _, _, _, _, _, _, _, _, _, _, _, _, _, _, _, _, _, _, _, _, _, _, _, _, _, _, _, _, _, _, _, _, _, _, _, _, _, _, _, _, _, _, _, _, _, _, _, ?_, HF.out.2.2.2.2.2.2.1, rfl⟩)
            obtain ⟨hp1, hp2, hg, hL, hsz, hDl, hB1, b1, hS, hx, hy, hpe, hA⟩ := HF.out
            rw [hA]
            exact b1
        · by_cases h46 : x = 46
          · by_cases e3 : p + 2 = nm.size
            · have hix2 := idx_run nm (p + 1) (p + 1 : Nat) rfl (by omega)
              rw [← hy] at hix2
              obtain ⟨q, hq⟩ : ∃ q, q = p + 1 := ⟨_, rfl⟩
              rw [← hq] at hix2
              have hw1 : IntKind.i64.wrap ((p : Int) + 1) = (q : Int) := by rw [IntKind.wrap_i64] <;> omega
              have t46 : (x == 46) = true := by rw [h46]; rfl
              rw [fmt_yes hpe (by omega) (by rw [← hx]; exact h46), ← hy] at hA
              have e3' : (p : Int) + 2 = (nm.size : Int) := by omega
              obtain ⟨V, hV⟩ : ∃ V, V = IntKind.u8.wrap (y - 48) := ⟨_, rfl⟩
              rw [← hV] at hA
              have hV1 : (y - 48) % 256 = V := by rw [hV, IntKind.wrap_u8]
              have hVr : 0 ≤ V ∧ V ≤ 255 := by omega
              have hV3 : IntKind.i64.wrap V = V := by rw [IntKind.wrap_i64] <;> omega
              replace hV := hV.symm
              clear hend e3
              have HF := Lib.hid (⟨hp1, hp2, hg, hL, hsz, hDl, hB1, b1, hS, hx, hy, hpe, hA⟩ : _ ∧ _ ∧ _ ∧ _ ∧ _ ∧ _ ∧ _ ∧ _ ∧ _ ∧ _ ∧ _ ∧ _ ∧ _)
              clear hp1 hp2 hg hL hsz hDl hB1 b1 hS hx hy hpe hA hS' hVr h46 hq
              go_wp2_with fail
              all_goals
                refine wp_label ?_
                rename_i hK
                refine hK _ _ (hp0 _ _ _ ⟨_, _, _, _, _, _, _, _, _, _, _, _, _, _, _, _, _, _, _, _, _, _, _, _, _, _, _, _, _, _, _, _, _, _, _, _, _, _, _, _, _, _, _, _, _, _, _, _, _, _, _, _, _, _, _, _, _, _, _, _, _, ?_, HF.out.2.2.2.2.2.2.1.setCell Hz.out _, rfl⟩)
                obtain ⟨hp1, hp2, hg, hL, hsz, hDl, hB1, b1, hS, hx, hy, hpe, hA⟩ := HF.out
                rw [hA]
                exact b1.s2 V
            · have hn46 : ¬ (p + 2 = nm.data.toList.length ∧ byI nm.data.toList p = 46) := by omega
              rw [fmt_no hpe hn46] at hA
              have e3' : ¬ (p : Int) + 2 = (nm.size : Int) := by omega
              clear hn46 hend e3
              have HF := Lib.hid (⟨hp1, hp2, hg, hL, hsz, hDl, hB1, b1, hS, hx, hy, hpe, hA⟩ : _ ∧ _ ∧ _ ∧ _ ∧ _ ∧ _ ∧ _ ∧ _ ∧ _ ∧ _ ∧ _ ∧ _ ∧ _)
              clear hp1 hp2 hg hL hsz hDl hB1 b1 hS hx hy hpe hA hS'
              go_wp2_with fail
              all_goals
                refine wp_label ?_
                rename_i hK
                refine hK _ _ (hp0 _ _ _ ⟨_, _, _, _, _, _, _, _, _, _, _, _, _, _, _, _, _, _, _, _, _, _, _, _, _, _, _, _, _, _, _, _, _, _, _, _, _, _, _, _, _, _, _, _, _, _, _, _, _, _, _, _, _, _, _, _, _, _, _, _, _, ?_, HF.out.2.2.2.2.2.2.1, rfl⟩)
                obtain ⟨hp1, hp2, hg, hL, hsz, hDl, hB1, b1, hS, hx, hy, hpe, hA⟩ := HF.out
                rw [hA]
                exact b1
          · have hn46 : ¬ (p + 2 = nm.data.toList.length ∧ byI nm.data.toList p = 46) := by rw [← hx]; omega
            rw [fmt_no hpe hn46] at hA
            have t46 : (x == 46) = false := by simp; exact h46
            clear hn46 hend
            have HF := Lib.hid (⟨hp1, hp2, hg, hL, hsz, hDl, hB1, b1, hS, hx, hy, hpe, hA⟩ : _ ∧ _ ∧ _ ∧ _ ∧ _ ∧ _ ∧ _ ∧ _ ∧ _ ∧ _ ∧ _ ∧ _ ∧ _)
            clear hp1 hp2 hg hL hsz hDl hB1 b1 hS hx hy hpe hA hS'
            go_wp2_with fail
            all_goals
              refine wp_label ?_
              rename_i hK
              refine hK _ _ (hp0 _ _ _ ⟨_, _, _, _, _, _, _, _, _, _, _, _, _, _, _, _, _, _, _, _, _, _, _, _, _, _, _, _, _, _, _, _, _, _, _, _, _, _, _, _, _, _, _, _, _, _, _, _, _, _, _, _, _, _, _, _, _, _, _, _, _, ?_, HF.out.2.2.2.2.2.2.1, rfl⟩)
              obtain ⟨hp1, hp2, hg, hL, hsz, hDl, hB1, b1, hS, hx, hy, hpe, hA⟩ := HF.out
              rw [hA]
              exact b1
      · have hn46 : ¬ (p + 2 = nm.data.toList.length ∧ byI nm.data.toList p = 46) := by omega
        rw [fmt_no hpe hn46] at hA
        have e3' : ¬ (p : Int) + 2 = (nm.size : Int) := by omega
        clear hn46
        have hpb : p ≤ 3000000001 := by omega
        have HF := Lib.hid (⟨hp1, hp2, hg, hL, hsz, hDl, hB1, b1, hS, hx, hy, hpe, hA⟩ : _ ∧ _ ∧ _ ∧ _ ∧ _ ∧ _ ∧ _ ∧ _ ∧ _ ∧ _ ∧ _ ∧ _ ∧ _)
        clear hp1 hp2 hg hL hsz hDl hB1 b1 hS hx hy hpe hA hS'
        go_wp2_with fail
        all_goals
          refine wp_label ?_
          rename_i hK
          refine hK _ _ (hp0 _ _ _ ⟨_, _, _, _, _, _, _, _, _, _, _, _, _, _, _, _, _, _, _, _, _, _, _, _, _, _, _, _, _, _, _, _, _, _, _, _, _, _, _, _, _, _, _, _, _, _, _, _, _, _, _, _, _, _, _, _, _, _, _, _, _, ?_, HF.out.2.2.2.2.2.2.1, rfl⟩)
          obtain ⟨hp1, hp2, hg, hL, hsz, hDl, hB1, b1, hS, hx, hy, hpe, hA⟩ := HF.out
          rw [hA]
          exact b1
  case pass0 =>
    rintro J a' wr ⟨u3, u4, u5, u6, u7, u8, u9, u10, u11, u12, u13, u14, u15, u16, u17, u18, u19, u20, u21, u22, u23, u24, u25, u26, u27, u28, u29, u30, u31, u32, u33, u34, u35, u36, u37, u38, u39, u40, u41, u42, u43, u44, u45, u46, u47, u48, u49, u50, u51, u52, u53, u54, u55, u56, u57, u58, u59, u60, u61, u62, u63, b1, hB1, rfl⟩
    obtain ⟨c0, c1, c2⟩ := b1.cells
    obtain ⟨f0, f1, f2⟩ := b1.frozen
    obtain ⟨X, hX⟩ : ∃ X, X = apartF nm.data.toList := ⟨_, rfl⟩
    rw [← hX] at b1 c0 c1 c2
    have HB := Lib.hid (⟨hB1, hX⟩ : _ ∧ _)
    clear hB1 hX
    go_wp2_with fail
    simp only [Exit.labels]
    have b2 := ((b1.s0 X.kind).s1 X.seq).s2 X.fmt
    obtain ⟨d0, d1, d2⟩ := b2.cells
    refine bodyPost_ret (v := X.v) (by simp [results, Tryd.results27, go_sem, IdP.v, *]) rfl ⟨by rw [HB.out.2], ((HB.out.1.setCell Hz.out _).setCell Hz.out _).setCell Hz.out _⟩

end Go.Proofs.YtbfdjjkphmchgaaDoor
