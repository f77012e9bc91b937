/-
  What the laws of package disk share: a box that holds a disk; Do, Read, Sync, Crash, Now by equations of plain disks.
-/
import Derived.Test.YtmfiopopiikbmaaWakesR
import Derived.Test.YtmfiopopiikbmaaQuotaP
import Derived.Test.YtmfiopopiikbmaaGreat
import Derived.Test.YtmfiopopiikbmaaDevN
import Derived.Test.YtmfiopopiikbmaaDraw
import Derived.Deep.DeepCutAuto
namespace Go.Proofs.Ytmfiopopiikbmaa
open Go.RowKit Go.Maps

/-- Box z holds the disk D, its rows at A and B. -/
def DBox (W : World) (z : Nat) (D : DiskP) (A : Option Addr) (n c : Nat) (B : Option Addr) (m k : Nat) : Prop :=
  Box5 W z 25 (.slice A n c) (.slice B m k) (.int .i64 D.quota) (.int .i64 D.fuse) (.bool D.dead) ∧ DAt W D A n c B m k
theorem DBox.below {W W' : World} {z : Nat} {D : DiskP} {A : Option Addr} {n c : Nat} {B : Option Addr} {m k : Nat} (h : DBox W z D A n c B m k) (hb : Below W.heap.size W W') : DBox W' z D A n c B m k := ⟨h.1.below hb, h.2.on hb⟩
theorem DBox.put {W : World} {z : Nat} {D D' : DiskP} {A : Option Addr} {n c : Nat} {B : Option Addr} {m k : Nat} {A' : Option Addr} {n' c' : Nat} {B' : Option Addr} {m' k' : Nat} (h : DBox W z D A n c B m k) (h' : DAt W D' A' n' c' B' m' k') :
    DBox (put5 W z (.slice A' n' c') (.slice B' m' k') (.int .i64 D'.quota) (.int .i64 D'.fuse) (.bool D'.dead)) z D' A' n' c' B' m' k' := ⟨put5_box h.1 _ _ _ _ _, DAt.put5 h.1 h'⟩
theorem DBox.put_other {W : World} {z y : Nat} {D E : DiskP} {A : Option Addr} {n c : Nat} {B : Option Addr} {m k : Nat} {A' : Option Addr} {n' c' : Nat} {B' : Option Addr} {m' k' : Nat} (h : DBox W z D A n c B m k) (h' : DBox W y E A' n' c' B' m' k') (hne : z ≠ y)
    {A'' : Option Addr} {n'' c'' : Nat} {B'' : Option Addr} {m'' k'' : Nat} {q u : Int} {dd : Bool} : DBox (put5 W y (.slice A'' n'' c'') (.slice B'' m'' k'') (.int .i64 q) (.int .i64 u) (.bool dd)) z D A n c B m k := ⟨put5_other h.1 hne _ _ _ _ _, DAt.put5 h'.1 h.2⟩
theorem DBox.cells {W : World} {z : Nat} {D : DiskP} {A : Option Addr} {n c : Nat} {B : Option Addr} {m k : Nat} (h : DBox W z D A n c B m k) :
    W.cell? ⟨z, 0, none⟩ = some (.slice A n c) ∧ W.cell? ⟨z, 1, none⟩ = some (.slice B m k) ∧ W.cell? ⟨z, 2, none⟩ = some (.int .i64 D.quota) ∧ W.cell? ⟨z, 3, none⟩ = some (.int .i64 D.fuse) ∧ W.cell? ⟨z, 4, none⟩ = some (.bool D.dead) := (box5 h.1).1
theorem Rd.put5 {W : World} {z : Nat} {D : DiskP} {A : Option Addr} {n c : Nat} {B : Option Addr} {m k : Nat} {A' : Option Addr} {n' c' : Nat} {B' : Option Addr} {m' k' : Nat} {q u : Int} {dd : Bool} {X : Option Addr} {N M : Nat} {l : List Int}
    (h : DBox W z D A n c B m k) (hr : Rd W N .u8 X M l) : Rd (Go.Proofs.Ytmfiopopiikbmaa.put5 W z (.slice A' n' c') (.slice B' m' k') (.int .i64 q) (.int .i64 u) (.bool dd)) N .u8 X M l :=
  ((((hr.apart h.1.noData).apart (h.1.s0 _).noData).apart ((h.1.s0 _).s1 _).noData).apart (((h.1.s0 _).s1 _).s2 _).noData).apart ((((h.1.s0 _).s1 _).s2 _).s3 _).noData

theorem do_step {W : World} {D D' : DiskP} {er : Int} {j : Nat} {A : Option Addr} {n c : Nat} {B : Option Addr} {m k : Nat} (o : OpM) (h : DAt W D A n c B m k) (hr : Run j D) (hj : j ≤ 1000) (ho : o.p.Ok W W.heap.size) (hk : 0 ≤ o.kind ∧ o.kind ≤ 255) (hn : o.p.n ≤ 1048576) (hs : o.name.size ≤ maxLen)
    (e : doP D o.pure = (D', er)) :
    Calls Try.prog 10 #[.agg #[.slice A n c, .slice B m k, .int .i64 D.quota, .int .i64 D.fuse, .bool D.dead], .agg #[.int .u8 o.kind, .string o.name, .string o.to, .slice o.p.A o.p.n o.p.c]] W fun e w' =>
      (∃ A' n' c' B' m' k', e = .returned (.tuple #[.agg #[.slice A' n' c', .slice B' m' k', .int .i64 D'.quota, .int .i64 D'.fuse, .bool D'.dead], .int .i64 er]) ∧ DAt w' D' A' n' c' B' m' k') ∧ Below W.heap.size W w' := by
  obtain ⟨fl, qu, q, u, dd⟩ := D
  have h1 := dev_doD o h (hr.small hj) hr.nms hr.fuse ho hk hn hs
  rw [e] at h1
  exact h1
theorem read_step {W : World} {D : DiskP} {er : Int} {l : List Int} {j : Nat} {A : Option Addr} {n c : Nat} {B : Option Addr} {m k : Nat} (s : ByteArray) (h : DAt W D A n c B m k) (hr : Run j D) (hj : j ≤ 1000) (hs : s.size ≤ maxLen) (e : readP D s = (l, er)) :
    Calls Try.prog 14 #[.agg #[.slice A n c, .slice B m k, .int .i64 D.quota, .int .i64 D.fuse, .bool D.dead], .string s] W fun e w' =>
      (∃ A' n' c', e = .returned (.tuple #[.slice A' n' c', .int .i64 er]) ∧ n' ≤ c' ∧ Rd w' w'.heap.size .u8 A' n' l) ∧ Below W.heap.size W w' := by
  have h1 := dev_read s h (hr.small hj) hr.nms hs
  rw [e] at h1
  exact h1
theorem Run.step {k : Nat} {D D' : DiskP} {o : OpP} {er : Int} (h : Run k D) (e : doP D o = (D', er)) (ho : o.bytes.length ≤ 1000) (hn : o.name.size ≤ maxLen ∧ o.to.size ≤ maxLen) : Run (k + 1) D' := by
  have h1 := h.do_ ho hn
  rw [e] at h1
  exact h1

end Go.Proofs.Ytmfiopopiikbmaa
