/-
  moultref04.Used, fine, burnt, New: their contracts.
-/
import Derived.Test.YtmfiopopiikbmaaNow
namespace Go.Proofs.Ytmfiopopiikbmaa
open Go.RowKit

theorem now_small {d : DiskP} (hs : Small d) : (nowP d).length ≤ 2000 ∧ Bnd 1099511627776 (nowP d) := by
  refine ⟨?_, ?_⟩
  · have h1 := all_length d.files d.queue
    have h2 := hs.files
    have h3 := hs.queue
    unfold nowP
    omega
  · have h1 := all_bnd hs.fbytes hs.obytes
    refine h1.mono ?_
    have h2 : d.queue.length * 1048576 ≤ 1000 * 1048576 := Nat.mul_le_mul_right _ hs.queue
    omega

set_option maxRecDepth 100000 in
set_option maxHeartbeats 1000000 in
theorem used_any {w : World} {d : DiskP} {A : Option Addr} {n c : Nat} {B : Option Addr} {m k : Nat} (h : DAt w d A n c B m k) (hs : Small d) :
    Calls Try.prog 26 #[.agg #[.slice A n c, .slice B m k, .int .i64 d.quota, .int .i64 d.fuse, .bool d.dead]] w fun e w' => e = .returned (.int .i64 (usedP d : Nat)) ∧ Below w.heap.size w w' := by
  have Hs := Lib.hid hs
  clear hs
  go_enter Try.func26, Try.ntmps26
  go_wp2_with fail
  refine (now_any (h.on ((Below.refl _ w).alloc (Nat.le_refl _) _)) Hs.out).mono ?_
  rintro e w1 ⟨⟨A1, n1, c1, fs1, rfl, hc1, hf1, hp1⟩, hb1⟩
  have hB1 : Below w.heap.size w w1 := ((Below.refl _ w).alloc (Nat.le_refl _) _).trans (hb1.mono (by simp))
  have hsm := now_small Hs.out
  rw [← hp1, List.length_map, hf1.len] at hsm
  have Hu := Lib.hid (show sizeP (fs1.map FileM.pure) = usedP d by rw [hp1]; rfl)
  have Hb := Lib.hid (bnd_mem hf1 hsm.2)
  have hn1 : n1 ≤ 100000 := by omega
  clear hsm hp1 hb1
  go_wp2_with fail
  refine (size_any A1 n1 c1 fs1 _ hf1 hn1 Hb.out).mono ?_
  rintro e w2 ⟨rfl, rfl⟩
  rw [Hu.out]
  go_wp2_with fail
  go_ret
  exact ⟨rfl, hB1⟩

/-- What Read answers. -/
def ReadOut (l : List Int) (er : Int) (e : Ending) (w' : World) : Prop := ∃ A n c, e = .returned (.tuple #[.slice A n c, .int .i64 er]) ∧ n ≤ c ∧ Rd w' w'.heap.size .u8 A n l
set_option maxRecDepth 100000 in
set_option maxHeartbeats 1000000 in
theorem read_any {w : World} {d : DiskP} {A : Option Addr} {n c : Nat} {B : Option Addr} {m k : Nat} (s : ByteArray) (h : DAt w d A n c B m k) (hs : Small d) :
    Calls Try.prog 15 #[.agg #[.slice A n c, .slice B m k, .int .i64 d.quota, .int .i64 d.fuse, .bool d.dead], .string s] w fun e w' => ReadOut (readP d s).1 (readP d s).2 e w' ∧ Below w.heap.size w w' := by
  obtain ⟨i1, hi, hz0, hz1, hz2⟩ := info_partsV info_u8
  have Hs := Lib.hid hs
  clear hs
  go_enter Try.func15, Try.ntmps15
  go_wp2_with fail
  refine (now_any (h.on ((Below.refl _ w).alloc (Nat.le_refl _) _)) Hs.out).mono ?_
  rintro e w1 ⟨⟨A1, n1, c1, fs1, rfl, hc1, hf1, hp1⟩, hb1⟩
  have hB1 : Below w.heap.size w w1 := ((Below.refl _ w).alloc (Nat.le_refl _) _).trans (hb1.mono (by simp))
  have hsm := now_small Hs.out
  rw [← hp1, List.length_map, hf1.len] at hsm
  have hn1 : n1 ≤ 1048576 := by omega
  have Hb := Lib.hid (bnd_mem hf1 hsm.2)
  have Hp := Lib.hid hp1
  clear hsm hp1 hb1
  go_wp2_with fail
  refine (find_any A1 n1 c1 fs1 s _ hf1 hn1).mono ?_
  rintro e w2 ⟨rfl, rfl⟩
  obtain ⟨q, hq⟩ : ∃ q, findG FileM.name fs1 s = q := ⟨_, rfl⟩
  have hqr := find_range FileM.name fs1 s
  rw [hq, hf1.len] at hqr
  rw [hq]
  have Hq := Lib.hid (show findG FileP.name (nowP d) s = q by rw [← Hp.out, find_pure]; exact hq)
  clear hq
  by_cases c2 : q < 0
  · have hd : decide (q < 0) = true := decide_eq_true c2
    have He := Lib.hid (show readP d s = ([], 42) by unfold readP; rw [Hq.out, if_pos c2])
    clear c2
    go_wp2_with fail
    go_ret2
    rw [He.out]
    exact ⟨⟨none, 0, 0, rfl, Nat.le_refl _, Rd.nil⟩, hB1⟩
  · have hd : decide (q < 0) = false := decide_eq_false c2
    obtain ⟨j, rfl⟩ : ∃ j : Nat, q = (j : Int) := ⟨q.toNat, by omega⟩
    have hjn : j < n1 := by omega
    obtain ⟨b, off, f, rfl, hbl, hf, h0, h1, hok⟩ := hf1.at_ hjn
    have hfn := Hb.out f (List.mem_of_getElem? hf)
    have He := Lib.hid (show readP d s = (f.p.l, 0) by
      unfold readP
      rw [Hq.out, if_neg c2, ← Hp.out, atP_eq (f := f.pure) (by rw [List.getElem?_map, hf]; rfl)]
      rfl)
    have hj2 : (0 : Int) ≤ (j : Int) := by omega
    have hj3 : (j : Int) < (n1 : Int) := by omega
    have Hsrc := Lib.hid hok.rd.source
    clear hf hok c2
    go_wp2_with (at_builtin; refine hold ?_)
    refine unhold (wpList_append (.tmp 15) (.tmp 20) 26 Try.underlying26 hi hz0 hz1 hz2 byte_cells (by omega) (base := w2.heap.size) (v := .slice (some ⟨w2.heap.size, 0, none⟩) 0 0) (n := 0) (xs := []) (own_emptyG rfl (Nat.le_refl _)) (Hsrc.out.alloc _) (by unfold maxLen; omega) (by omega) (by simp) rfl rfl rfl rfl ?_)
    intro v1 w4 L3
    have b4 : Below w2.heap.size w2 w4 := L3.below ((Below.refl _ w2).alloc (Nat.le_refl _) _) (by simp) (fun g hg => by simp [Value.ownBlock] at hg; omega)
    have own4 := L3.1
    rw [List.nil_append, Nat.zero_add] at own4
    obtain ⟨A2, c2, rfl, hc2⟩ := own_slice own4
    have r4 := Rd.of_own own4
    clear L3 own4
    go_wp2_with fail
    go_ret2
    rw [He.out]
    exact ⟨⟨A2, _, c2, rfl, hc2, r4⟩, hB1.trans (b4.mono hB1.size)⟩

theorem nil_name (s : ByteArray) : s.toList = [] ↔ s = ByteArray.empty := by
  constructor
  · intro h
    exact toList_inj (h.trans (by decide +kernel))
  · rintro rfl
    decide +kernel
set_option maxRecDepth 100000 in
set_option maxHeartbeats 400000 in
theorem fine_any (o : OpP) (p : Value) (w : World) (_hk : 0 ≤ o.kind ∧ o.kind ≤ 255) :
    Calls Try.prog 35 #[.agg #[.int .u8 o.kind, .string o.name, .string o.to, p]] w fun e w' => e = .returned (.bool (fineP o)) ∧ Below w.heap.size w w' := by
  have Hf := Lib.hid (show fineP o = (decide (1 ≤ o.kind) && decide (o.kind ≤ 4) && !o.name.toList.isEmpty && (decide (o.kind ≠ 3) || !o.to.toList.isEmpty)) by
    unfold fineP
    rw [Bool.eq_iff_iff]
    simp only [decide_eq_true_eq, Bool.and_eq_true, Bool.or_eq_true, Bool.not_eq_true', List.isEmpty_eq_false_iff, ne_eq, nil_name, Classical.or_iff_not_imp_left, Classical.not_not]
    exact ⟨fun ⟨a, b, c, d⟩ => ⟨⟨⟨a, b⟩, c⟩, d⟩, fun ⟨⟨⟨a, b⟩, c⟩, d⟩ => ⟨a, b, c, d⟩⟩)
  go_enter Try.func35, Try.ntmps35
  go_wp2_with fail
  all_goals
    go_ret
    refine ⟨ret_bool ?_, (Below.refl _ w).alloc (Nat.le_refl _) _⟩
    rw [Hf.out]
    first
      | (simp_all; done)
      | (simp_all; intros; omega)

set_option maxRecDepth 100000 in
set_option maxHeartbeats 400000 in
theorem burnt_any (d : DiskP) (A : Option Addr) (n c : Nat) (B : Option Addr) (m k : Nat) (w : World) (hu : d.fuse ≤ 9223372036854775807) :
    Calls Try.prog 38 #[.agg #[.slice A n c, .slice B m k, .int .i64 d.quota, .int .i64 d.fuse, .bool d.dead]] w fun e w' =>
      e = .returned (.agg #[.slice A n c, .slice B m k, .int .i64 d.quota, .int .i64 (burntP d).fuse, .bool (burntP d).dead]) ∧ Below w.heap.size w w' := by
  go_enter Try.func38, Try.ntmps38
  go_wp2_with fail
  · have e1 : burntP d = { d with fuse := d.fuse - 1, dead := decide (d.fuse - 1 = 0) } := by unfold burntP; rw [if_pos (by assumption)]
    rw [e1]
    refine bodyPost_ret (v := .agg #[.slice A n c, .slice B m k, .int .i64 d.quota, .int .i64 (d.fuse - 1), .bool (decide (d.fuse - 1 = 0))]) (by simp [results, Try.results38, go_sem]; try rfl) rfl ⟨rfl, ?_⟩
    exact (by repeat (first | exact Below.refl _ _ | refine Below.setCell ?_ (by simp) _ | refine Below.alloc ?_ (by simp; try omega) _))
  · have e1 : burntP d = d := by unfold burntP; rw [if_neg (by omega)]
    rw [e1]
    refine bodyPost_ret (v := .agg #[.slice A n c, .slice B m k, .int .i64 d.quota, .int .i64 d.fuse, .bool d.dead]) (by simp [results, Try.results38, go_sem]; try rfl) rfl ⟨rfl, ?_⟩
    exact (by repeat (first | exact Below.refl _ _ | refine Below.setCell ?_ (by simp) _ | refine Below.alloc ?_ (by simp; try omega) _))

set_option maxRecDepth 100000 in
set_option maxHeartbeats 400000 in
theorem new_any (q : Int) (w : World) :
    Calls Try.prog 29 #[.int .i64 q] w fun e w' =>
      e = .returned (.agg #[.slice none 0 0, .slice none 0 0, .int .i64 (max q 0), .int .i64 0, .bool false]) ∧ Below w.heap.size w w' := by
  go_enter Try.func29, Try.ntmps29
  go_wp2_with fail
  · refine bodyPost_ret (v := .agg #[.slice none 0 0, .slice none 0 0, .int .i64 (max q 0), .int .i64 0, .bool false]) (by simp [results, Try.results29, go_sem]; try omega) rfl ⟨rfl, ?_⟩
    exact (by repeat (first | exact Below.refl _ _ | refine Below.setCell ?_ (by simp) _ | refine Below.alloc ?_ (by simp; try omega) _))
  · refine bodyPost_ret (v := .agg #[.slice none 0 0, .slice none 0 0, .int .i64 (max q 0), .int .i64 0, .bool false]) (by simp [results, Try.results29, go_sem]; try omega) rfl ⟨rfl, ?_⟩
    exact (by repeat (first | exact Below.refl _ _ | refine Below.setCell ?_ (by simp) _ | refine Below.alloc ?_ (by simp; try omega) _))

end Go.Proofs.Ytmfiopopiikbmaa
