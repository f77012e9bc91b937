/-
  Bytes compared as strings.
-/
import Derived.Test.YtcpdjhkpmaamdaaGreatBase
import Derived.Laws.Strings
import Derived.WideShapes
import Derived.Test.YtcpdjhkpmaamdaaGreatByt
namespace Go.Proofs.YtcpdjhkpmaamdaaGreat
open Go.RowKit

/-- The text that bytes make. -/
def txt (l : List Int) : ByteArray := ⟨(l.map fun n => UInt8.ofNat n.toNat).toArray⟩
theorem txt_push (ns : List Int) : ∀ s : ByteArray, ns.foldl (fun r n => r.push (UInt8.ofNat n.toNat)) s = ⟨s.data ++ (ns.map fun n => UInt8.ofNat n.toNat).toArray⟩ := by
  induction ns with
  | nil => intro s; simp
  | cons n ns ih =>
    intro s
    rw [List.foldl_cons, ih]
    cases s
    simp [ByteArray.push]
theorem txt_eq {l m : List Int} (hl : Byt l) (hm : Byt m) : txt l = txt m ↔ l = m := by
  constructor
  · intro h
    simp only [txt, ByteArray.mk.injEq] at h
    replace h := congrArg Array.toList h
    simp only at h
    have key : ∀ (l m : List Int), Byt l → Byt m → (l.map fun n => UInt8.ofNat n.toNat) = (m.map fun n => UInt8.ofNat n.toNat) → l = m := by
      intro l
      induction l with
      | nil => intro m _ _ h; simpa using h.symm
      | cons a l ih =>
        intro m hl hm h
        cases m with
        | nil => simp at h
        | cons b m =>
          simp only [List.map_cons, List.cons.injEq] at h
          have ha := hl a (by simp)
          have hb := hm b (by simp)
          have h1 : (UInt8.ofNat a.toNat).toNat = (UInt8.ofNat b.toNat).toNat := by rw [h.1]
          rw [UInt8.toNat_ofNat_of_lt' (by simp [UInt8.size]; omega), UInt8.toNat_ofNat_of_lt' (by simp [UInt8.size]; omega)] at h1
          rw [ih m (fun x hx => hl x (by simp [hx])) (fun x hx => hm x (by simp [hx])) h.2]
          congr 1
          omega
    exact key l m hl hm h
  · rintro rfl; rfl
/-- A slice that is read makes its bytes' text. -/
theorem run_txt {P : Program} {w : World} {B n c : Nat} {A : Option Addr} {l : List Int} (src dst e : TypeId)
    (hs : P.underlying src = some (.slice e)) (he : P.underlying e = some (.int .u8)) (hd : P.underlying dst = some .string) (hr : Rd w B .u8 A n l) :
    (convert src dst (.slice A n c)).run P w = .ok (.string (txt l)) w := by
  rw [run_convert_bytes_string w src dst e A n c hs he hd]
  rcases A with _ | a
  · obtain ⟨rfl, rfl⟩ := hr.none_
    rfl
  · have h := run_loadCells_list (P := P) (w := w) a (l.map (Value.int .u8)) hr.cells
    rw [List.length_map, hr.1] at h
    rw [run_bytesToString w a n c l h, txt_push]
    simp [txt]

/-- Whether two rows are the same. -/
def eqB (l m : List Int) : Bool := decide (l = m)
theorem eqB_true {l m : List Int} (h : l = m) : eqB l m = true := decide_eq_true h
theorem eqB_iff {l m : List Int} : eqB l m = true ↔ l = m := by simp [eqB]
theorem txt_beq {l m : List Int} (hl : Byt l) (hm : Byt m) : ((txt l).toList == (txt m).toList) = eqB l m := by
  rw [ByteArray.toList_eq, ByteArray.toList_eq, Bool.eq_iff_iff, beq_iff_eq, eqB_iff, ← txt_eq hl hm]
  exact ⟨fun h => Go.WideShapes.bytes_inj h, fun h => by rw [h]⟩
end Go.Proofs.YtcpdjhkpmaamdaaGreat

