/-
  moultlaw05.wakes: it returns true.
-/
import Derived.Test.YtbfdjjkphmchgaaDoorStrs
import Derived.Test.YtbfdjjkphmchgaaDoorOrd
import Derived.Test.YtbfdjjkphmchgaaDoorFind
namespace Go.Proofs.YtbfdjjkphmchgaaDoor
open Go.RowKit Go.Maps

theorem dec12 : Lib.decDigits 12 = [49, 50] := by
  rw [Lib.decDigits, dif_neg (by decide), Lib.decDigits_one (by decide)]
  rfl
theorem dec7 : Lib.decDigits 7 = [55] := Lib.decDigits_one (by decide)
theorem txt_s72 : txtP ⟨3, 7, 2⟩ = [115, 55, 46, 50] := by
  rw [txt_seg (by decide) (by decide) (by decide), show (7 : Int).toNat = 7 from rfl, dec7]
  rfl
theorem txt_p121 : txtP ⟨4, 12, 1⟩ = [112, 49, 50, 46, 49] := by
  rw [txt_seg (by decide) (by decide) (by decide), show (12 : Int).toNat = 12 from rfl, dec12]
  rfl
theorem txt_p71 : txtP ⟨4, 7, 1⟩ = [112, 55, 46, 49] := by
  rw [txt_seg (by decide) (by decide) (by decide), show (7 : Int).toNat = 7 from rfl, dec7]
  rfl
theorem name_s72 : nameP ⟨3, 7, 2⟩ = ⟨#[115, 55, 46, 50]⟩ ∧ errP ⟨3, 7, 2⟩ = 0 := by
  rw [(name_yes (by decide)).1, (name_yes (by decide)).2, txt_s72]
  exact ⟨rfl, rfl⟩
theorem name_0 : nameP ⟨0, 0, 0⟩ = ⟨#[]⟩ ∧ errP ⟨0, 0, 0⟩ = 2 := name_no (by decide)
theorem name_m : nameP ⟨1, 0, 0⟩ = ⟨#[77]⟩ := by
  rw [(name_yes (by decide)).1]
  rfl
theorem parse_p121 : parseP ⟨#[112, 49, 50, 46, 49]⟩ = (⟨4, 12, 1⟩, true) := by
  have h := apart_txt (x := ⟨4, 12, 1⟩) (by decide)
  rw [txt_p121] at h
  have h2 : apartF (⟨#[112, 49, 50, 46, 49]⟩ : ByteArray).data.toList = ⟨4, 12, 1⟩ := h
  rw [parse_yes (by rw [h2]; exact ⟨by decide, by rw [(name_yes (by decide)).1, txt_p121]⟩), h2]
theorem parse_p071 : parseP ⟨#[112, 48, 55, 46, 49]⟩ = (⟨0, 0, 0⟩, false) := by
  have h2 : apartF (⟨#[112, 48, 55, 46, 49]⟩ : ByteArray).data.toList = ⟨4, 7, 1⟩ := rfl
  refine parse_no ?_
  rw [h2]
  rintro ⟨_, h⟩
  rw [(name_yes (by decide)).1, txt_p71] at h
  cases h
def wakeL : List FlP := [⟨⟨#[77]⟩, none, 0, 0⟩, ⟨⟨#[120]⟩, none, 0, 0⟩, ⟨⟨#[115, 55, 46, 50]⟩, none, 0, 0⟩]
theorem wake_found : foundP wakeL ⟨3, 7, 2⟩ = 2 := by
  unfold foundP
  rw [if_pos (by decide), name_s72.1]
  rfl
theorem wake_rest : restP wakeL [⟨1, 0, 0⟩] = [⟨#[120]⟩, ⟨#[115, 55, 46, 50]⟩] := by
  have h : keptP [⟨1, 0, 0⟩] = [⟨#[77]⟩] := by
    show [nameP ⟨1, 0, 0⟩] = _
    rw [name_m]
  unfold restP
  rw [h]
  rfl
theorem wake_less : decide (LessP ⟨4, 1, 0⟩ ⟨0, 2, 0⟩) = true := by decide
theorem Row.made {α : Type} {m : Nat} (cs : α → List Value) (hm : 0 < m) (hc : ∀ x, (cs x).length = m) (w : World) (t : TypeId) (l : List α) {g : Nat} (hg : g = w.heap.size) : Row m cs (w.alloc (.cells (l.flatMap cs).toArray t)) (w.alloc (.cells (l.flatMap cs).toArray t)).heap.size (some ⟨g, 0, none⟩) l.length l := by
  subst hg
  refine ⟨rfl, fun _ => ⟨w.heap.size, 0, rfl, by simp, fun i x hi j hj => ?_⟩⟩
  have e1 : (i * m + j) / m = i := by rw [Nat.mul_comm, Nat.mul_add_div hm, Nat.div_eq_of_lt hj, Nat.add_zero]
  have e2 : (i * m + j) % m = j := by rw [Nat.mul_comm, Nat.mul_add_mod, Nat.mod_eq_of_lt hj]
  rw [cell_of_row _ _ _ _ _ _ (World.alloc_heap_new w _), Nat.zero_add, List.getElem?_toArray, flat_get cs hm hc, e1, e2, hi]
  rfl

set_option maxRecDepth 100000 in
set_option maxHeartbeats 4000000 in
theorem wakes_true (w : World) (hP : Pow w) : Calls Tryd.prog 9 #[] w fun e w' => e = .returned (.bool true) ∧ Below w.heap.size w w' := by
  have HP := Lib.hid hP
  clear hP
  go_enter Tryd.func9, Tryd.ntmps9
  go_wp2_with fail
  refine (name_any ⟨3, 7, 2⟩ w HP.out (by constructor <;> decide)).mono ?_
  rintro e w1 ⟨rfl, hb1⟩
  rw [name_s72.1, name_s72.2]
  go_wp2_with fail
  refine (parse_any ⟨#[112, 49, 50, 46, 49]⟩ (by decide) w1 (HP.out.on hb1)).mono ?_
  rintro e w2 ⟨rfl, hb2⟩
  rw [parse_p121]
  replace hb2 := below_on hb1 hb2
  unfold IdP.v
  go_wp2_with fail
  obtain ⟨z, hz⟩ : ∃ z, z = w2.heap.size := ⟨_, rfl⟩
  obtain ⟨w3, hw3⟩ : ∃ w3, w3 = w2.alloc (.cells #[.int .u8 4, .int .i64 12, .int .i64 1] 23) := ⟨_, rfl⟩
  have hB3 : Below w.heap.size w w3 := by rw [hw3]; exact below_al hb2 _
  have bz3 : BoxI w3 z ⟨4, 12, 1⟩ := by rw [hw3, hz]; exact BoxI.new w2 ⟨4, 12, 1⟩
  rw [← hw3, ← hz]
  clear hw3 hz hb2
  refine (parse_any ⟨#[112, 48, 55, 46, 49]⟩ (by decide) w3 (HP.out.on hB3)).mono ?_
  rintro e w4 ⟨rfl, hb4⟩
  rw [parse_p071]
  have hB4 := below_on hB3 hb4
  have bz4 := bz3.below hb4
  clear hb4 hB3 bz3
  unfold IdP.v
  go_wp2_with fail
  obtain ⟨y, hy⟩ : ∃ y, y = w4.heap.size := ⟨_, rfl⟩
  obtain ⟨w5, hw5⟩ : ∃ w5, w5 = w4.alloc (.cells #[.int .u8 0, .int .i64 0, .int .i64 0] 23) := ⟨_, rfl⟩
  have hB5 : Below w.heap.size w w5 := by rw [hw5]; exact below_al hB4 _
  have bz5 : BoxI w5 z ⟨4, 12, 1⟩ := by rw [hw5]; exact bz4.below (below_al (below_d0 _) _)
  rw [← hw5, ← hy]
  clear hw5 hy hB4 bz4
  refine (name_any ⟨0, 0, 0⟩ w5 (HP.out.on hB5) (by constructor <;> decide)).mono ?_
  rintro e w6 ⟨rfl, hb6⟩
  rw [name_0.1, name_0.2]
  have hB6 := below_on hB5 hb6
  have bz6 := bz5.below hb6
  clear hb6 hB5 bz5
  go_upto_region 6 with fail
  obtain ⟨b, hb⟩ : ∃ b, b = w6.heap.size := ⟨_, rfl⟩
  obtain ⟨w7, hw7⟩ : ∃ w7, w7 = w6.alloc (.cells #[.string ⟨#[77]⟩, .slice none 0 0, .string ⟨#[120]⟩, .slice none 0 0, .string ⟨#[115, 55, 46, 50]⟩, .slice none 0 0] 46) := ⟨_, rfl⟩
  have hl7 : Fl w7 w7.heap.size (some ⟨b, 0, none⟩) 3 wakeL := by rw [hw7]; exact Row.made FlP.cs (by omega) (fun _ => rfl) w6 46 wakeL hb
  have hB7 : Below w.heap.size w w7 := by rw [hw7]; exact below_al hB6 _
  have bz7 : BoxI w7 z ⟨4, 12, 1⟩ := by rw [hw7]; exact bz6.below (below_al (below_d0 _) _)
  rw [← hw7, ← hb]
  clear hw7 hb hB6 bz6 hb1
  have q1 := eql_yes (k := 4) (s := 12) (f := 1) (k' := 4) (s' := 12) (f' := 1) ⟨rfl, rfl, rfl⟩
  obtain ⟨k0, k1, k2⟩ := bz7.cells
  go_wp2_with fail
  clear k0 k1 k2 q1
  have hf := find_any ⟨3, 7, 2⟩ (by constructor <;> decide) (some ⟨b, 0, none⟩) 3 3 wakeL w7 (HP.out.on hB7) hl7 (by omega)
  rw [wake_found] at hf
  refine hf.mono ?_
  rintro e w8 ⟨rfl, hb8⟩
  have hB8 := below_on hB7 hb8
  have hl8 : Fl w8 w8.heap.size (some ⟨b, 0, none⟩) 3 wakeL := hl7.on hb8 hb8.size
  clear hf hl7 hb8 hB7 bz7
  go_wp2_with fail
  obtain ⟨d, hd⟩ : ∃ d, d = w8.heap.size := ⟨_, rfl⟩
  obtain ⟨w9, hw9⟩ : ∃ w9, w9 = w8.alloc (.cells #[.int .u8 1, .int .i64 0, .int .i64 0] 23) := ⟨_, rfl⟩
  have hk9 : Ids w9 w9.heap.size (some ⟨d, 0, none⟩) 1 [⟨1, 0, 0⟩] := by rw [hw9]; exact Row.made IdP.cs (by omega) IdP.len w8 23 [⟨1, 0, 0⟩] hd
  have hb9 : Below w8.heap.size w8 w9 := by rw [hw9]; exact below_al (below_d0 _) _
  have hB9 := below_on hB8 hb9
  have hl9 : Fl w9 w9.heap.size (some ⟨b, 0, none⟩) 3 wakeL := hl8.on hb9 hb9.size
  rw [← hw9, ← hd]
  clear hw9 hd hB8 hl8 hb9
  refine (rest_any (some ⟨b, 0, none⟩) 3 3 wakeL (some ⟨d, 0, none⟩) 1 1 [⟨1, 0, 0⟩] w9 (HP.out.on hB9) hl9 hk9 (fun x hx => by obtain rfl := List.mem_singleton.1 hx; constructor <;> decide) (fun f hf => by
    rcases List.mem_cons.1 hf with rfl | hf
    · decide
    · rcases List.mem_cons.1 hf with rfl | hf
      · decide
      · obtain rfl := List.mem_singleton.1 hf; decide) (by omega) (by omega)).mono ?_
  rw [wake_rest]
  rintro e wa ⟨⟨v, rfl, hrow⟩, hba⟩
  obtain ⟨A, c, rfl, hra⟩ := Strs.of_own hrow
  have hBa := below_on hB9 hba
  clear hrow hba hB9 hl9 hk9
  go_wp2_with fail
  obtain ⟨g, hg⟩ : ∃ g, g = wa.heap.size := ⟨_, rfl⟩
  obtain ⟨wb, hwb⟩ : ∃ wb, wb = wa.alloc (.cells #[.string ⟨#[120]⟩, .string ⟨#[115, 55, 46, 50]⟩] 9) := ⟨_, rfl⟩
  have hrb : Strs wb wb.heap.size (some ⟨g, 0, none⟩) 2 [⟨#[120]⟩, ⟨#[115, 55, 46, 50]⟩] := by rw [hwb]; exact Row.made (m := 1) (fun s => [strV s]) (by decide) (fun _ => rfl) wa 9 [⟨#[120]⟩, ⟨#[115, 55, 46, 50]⟩] hg
  have hbb : Below wa.heap.size wa wb := by rw [hwb]; exact below_al (below_d0 _) _
  have hBb := below_on hBa hbb
  have hrc := hra.on hbb hbb.size
  rw [← hwb, ← hg]
  clear hwb hg hBa hra hbb
  refine (strings_any A 2 c _ (some ⟨g, 0, none⟩) 2 2 _ wb hrc hrb (by decide) (by decide)).mono ?_
  rintro e wc ⟨⟨q, rfl, hq⟩, hbc⟩
  obtain rfl : q = true := hq.2 rfl
  have hBc := below_on hBb hbc
  clear hrc hrb hbc hBb hq
  go_wp2_with fail
  refine (less_any ⟨4, 1, 0⟩ ⟨0, 2, 0⟩ wc).mono ?_
  rintro e wd ⟨rfl, hbd⟩
  rw [wake_less]
  go_wp2_with fail
  go_ret
  exact ⟨rfl, below_on hBc hbd⟩

end Go.Proofs.YtbfdjjkphmchgaaDoor
