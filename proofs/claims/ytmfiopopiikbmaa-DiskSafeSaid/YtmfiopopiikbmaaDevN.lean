/-
  The developers' Same: its contract.
-/
import Derived.Test.YtmfiopopiikbmaaDevM
namespace Go.Proofs.Ytmfiopopiikbmaa
open Go.RowKit Go.Maps

set_option maxRecDepth 100000 in
set_option maxHeartbeats 400000 in
theorem dev_equal {w : World} (p q : Byts) (hp : p.Ok w w.heap.size) (hq : q.Ok w w.heap.size) :
    Calls Try.prog 58 #[.slice p.A p.n p.c, .slice q.A q.n q.c] w fun e w' => e = .returned (.bool (eqB p.l q.l)) ∧ w' = w := by
  have c1 := run_txt (P := Try.prog) (c := p.c) 26 9 5 Try.underlying26 Try.underlying5 Try.underlying9 hp.rd
  have c2 := run_txt (P := Try.prog) (c := q.c) 26 9 5 Try.underlying26 Try.underlying5 Try.underlying9 hq.rd
  have he := txt_beq hp.byt hq.byt
  obtain ⟨b, hb⟩ : ∃ b, b = eqB p.l q.l := ⟨_, rfl⟩
  rw [← hb] at he ⊢
  clear hb
  go_enter Try.func58, Try.ntmps58
  go_wp2_with fail
  go_ret
  exact ⟨rfl, rfl⟩

set_option maxRecDepth 100000 in
set_option maxHeartbeats 1000000 in
theorem dev_sameFile {w : World} (f g : FileM) (hf : f.p.Ok w w.heap.size) (hg : g.p.Ok w w.heap.size) :
    Calls Try.prog 43 #[.agg #[.string f.name, .slice f.p.A f.p.n f.p.c], .agg #[.string g.name, .slice g.p.A g.p.n g.p.c]] w fun e w' => Says (f.pure = g.pure) e ∧ Below w.heap.size w w' := by
  have hB : Below w.heap.size w ((w.alloc (.cells #[.string f.name, .slice f.p.A f.p.n f.p.c] 47)).alloc (.cells #[.string g.name, .slice g.p.A g.p.n g.p.c] 47)) := ((Below.refl _ _).alloc (Nat.le_refl _) _).alloc (by simp) _
  go_enter Try.func43, Try.ntmps43
  by_cases hn : f.name = g.name
  · have t1 : (f.name.toList == g.name.toList) = true := by rw [beq_name, decide_eq_true hn]
    have Hn := Lib.hid hn
    clear hn
    go_wp2_with fail
    refine (dev_equal f.p g.p (hf.on hB hB.size) (hg.on hB hB.size)).mono ?_
    rintro e w1 ⟨rfl, rfl⟩
    have Hs := Lib.hid (show Says (f.pure = g.pure) (.returned (.bool (eqB f.p.l g.p.l))) from ⟨_, rfl, by
      rw [eqB_iff]
      refine ⟨fun h => ?_, fun h => congrArg FileP.bytes h⟩
      show FileP.mk f.name f.p.l = FileP.mk g.name g.p.l
      rw [h, Hn.out]⟩)
    obtain ⟨b, hb⟩ : ∃ b, b = eqB f.p.l g.p.l := ⟨_, rfl⟩
    rw [← hb] at Hs ⊢
    clear hb
    go_wp2_with fail
    go_ret
    exact ⟨Hs.out, hB⟩
  · have t1 : (f.name.toList == g.name.toList) = false := by rw [beq_name, decide_eq_false hn]
    have Hn := Lib.hid (show ¬ f.pure = g.pure from fun h => hn (congrArg FileP.name h))
    clear hn
    go_wp2_with fail
    go_ret
    exact ⟨says_no Hn.out, hB⟩

set_option maxRecDepth 100000 in
set_option maxHeartbeats 1000000 in
theorem dev_sameOp {w : World} (o p : OpM) (ho : o.p.Ok w w.heap.size) (hp : p.p.Ok w w.heap.size) :
    Calls Try.prog 45 #[.agg #[.int .u8 o.kind, .string o.name, .string o.to, .slice o.p.A o.p.n o.p.c], .agg #[.int .u8 p.kind, .string p.name, .string p.to, .slice p.p.A p.p.n p.p.c]] w fun e w' => Says (o.pure = p.pure) e ∧ Below w.heap.size w w' := by
  have hB : Below w.heap.size w ((w.alloc (.cells #[.int .u8 o.kind, .string o.name, .string o.to, .slice o.p.A o.p.n o.p.c] 28)).alloc (.cells #[.int .u8 p.kind, .string p.name, .string p.to, .slice p.p.A p.p.n p.p.c] 28)) := ((Below.refl _ _).alloc (Nat.le_refl _) _).alloc (by simp) _
  go_enter Try.func45, Try.ntmps45
  by_cases hk : o.kind = p.kind
  · have t0 : (o.kind == p.kind) = true := by simpa using hk
    by_cases hn : o.name = p.name
    · have t1 : (o.name.toList == p.name.toList) = true := by rw [beq_name, decide_eq_true hn]
      by_cases ht : o.to = p.to
      · have t2 : (o.to.toList == p.to.toList) = true := by rw [beq_name, decide_eq_true ht]
        have Hn := Lib.hid (⟨hk, hn, ht⟩ : _ ∧ _ ∧ _)
        clear hn ht hk
        go_wp2_with fail
        refine (dev_equal o.p p.p (ho.on hB hB.size) (hp.on hB hB.size)).mono ?_
        rintro e w1 ⟨rfl, rfl⟩
        have Hs := Lib.hid (show Says (o.pure = p.pure) (.returned (.bool (eqB o.p.l p.p.l))) from ⟨_, rfl, by
          rw [eqB_iff]
          refine ⟨fun h => ?_, fun h => congrArg OpP.bytes h⟩
          show OpP.mk o.kind o.name o.to o.p.l = OpP.mk p.kind p.name p.to p.p.l
          rw [h, Hn.out.1, Hn.out.2.1, Hn.out.2.2]⟩)
        obtain ⟨b, hb⟩ : ∃ b, b = eqB o.p.l p.p.l := ⟨_, rfl⟩
        rw [← hb] at Hs ⊢
        clear hb
        go_wp2_with fail
        go_ret
        exact ⟨Hs.out, hB⟩
      · have t2 : (o.to.toList == p.to.toList) = false := by rw [beq_name, decide_eq_false ht]
        have Hn := Lib.hid (show ¬ o.pure = p.pure from fun h => ht (congrArg OpP.to h))
        clear hn ht hk
        go_wp2_with fail
        go_ret
        exact ⟨says_no Hn.out, hB⟩
    · have t1 : (o.name.toList == p.name.toList) = false := by rw [beq_name, decide_eq_false hn]
      have Hn := Lib.hid (show ¬ o.pure = p.pure from fun h => hn (congrArg OpP.name h))
      clear hn hk
      go_wp2_with fail
      go_ret
      exact ⟨says_no Hn.out, hB⟩
  · have t0 : (o.kind == p.kind) = false := by simpa using hk
    have Hn := Lib.hid (show ¬ o.pure = p.pure from fun h => hk (congrArg OpP.kind h))
    clear hk
    go_wp2_with fail
    go_ret
    exact ⟨says_no Hn.out, hB⟩

set_option maxRecDepth 100000 in
set_option maxHeartbeats 1000000 in
theorem dev_equalF {w : World} {A : Option Addr} {n c : Nat} {fs : List FileM} {B : Option Addr} {m k : Nat} {gs : List FileM} (hr : Fs w w.heap.size A n fs) (hr' : Fs w w.heap.size B m gs) (hn : n ≤ 100000) :
    Calls Try.prog 42 #[.slice A n c, .slice B m k, .func (.func 43) #[] #[]] w fun e w' => Says (fs.map FileM.pure = gs.map FileM.pure) e ∧ Below w.heap.size w w' := by
  have Hl := Lib.hid hr.len
  have Hl' := Lib.hid hr'.len
  go_enter Try.func42, Try.ntmps42
  by_cases hnm : n = m
  · subst hnm
    have hd : ((n : Int) == (n : Int)) = true := by simp
    go_wp2_with fail
    go_loopw [17] (fun i wr => ∃ j : Nat, j ≤ n ∧ i = .int .i64 j ∧ (fs.map FileM.pure).take j = (gs.map FileM.pure).take j ∧ Below w.heap.size w wr) (fun i _ => n - (intOf i).toNat)
    case atStart => exact ⟨0, Nat.zero_le _, rfl, by simp, Below.refl _ _⟩
    case round =>
      obtain ⟨j, hj, rfl, ht, hB⟩ := hrel
      by_cases hlt : j < n
      · obtain ⟨b1, o1, f, rfl, hb1, hf, f0, f1, hok⟩ := (hr.on hB hB.size).at_ hlt
        obtain ⟨b2, o2, g, rfl, hb2, hg, g0, g1, hok'⟩ := (hr'.on hB hB.size).at_ hlt
        have hj2 : (0 : Int) ≤ (j : Int) := by omega
        have hj3 : (j : Int) < (n : Int) := by omega
        have hw1 : IntKind.i64.wrap ((j : Int) + 1) = ((j + 1 : Nat) : Int) := by rw [IntKind.wrap_i64]; omega
        have hf' : (fs.map FileM.pure)[j]? = some f.pure := by rw [List.getElem?_map, hf]; rfl
        have hg' : (gs.map FileM.pure)[j]? = some g.pure := by rw [List.getElem?_map, hg]; rfl
        have b4 : Below wr.heap.size wr ((wr.alloc (.cells #[.string f.name, .slice f.p.A f.p.n f.p.c] 47)).alloc (.cells #[.string g.name, .slice g.p.A g.p.n g.p.c] 47)) := ((Below.refl _ _).alloc (Nat.le_refl _) _).alloc (by simp) _
        have g0' := (((Below.refl wr.heap.size wr).alloc (Nat.le_refl _) (.cells #[.string f.name, .slice f.p.A f.p.n f.p.c] 47)).cell (p := ⟨b2, o2 + j * 2, none⟩) hb2).trans g0
        have g1' := (((Below.refl wr.heap.size wr).alloc (Nat.le_refl _) (.cells #[.string f.name, .slice f.p.A f.p.n f.p.c] 47)).cell (p := ⟨b2, o2 + j * 2 + 1, none⟩) hb2).trans g1
        have Hne := Lib.hid (fun h : ¬ f.pure = g.pure => take_ne hf' hg' h)
        have Heq := Lib.hid (fun h : f.pure = g.pure => take_eq hf' hg' h ht)
        have Hb4 := Lib.hid b4
        clear hf hg hf' hg' ht b4
        go_wp2_with fail
        refine (dev_sameFile f g (hok.on Hb4.out Hb4.out.size) (hok'.on Hb4.out Hb4.out.size)).mono ?_
        rintro e w4 ⟨⟨y, rfl, hy⟩, hb⟩
        have hB4 : Below w.heap.size w w4 := hB.trans ((Hb4.out.trans (hb.mono Hb4.out.size)).mono hB.size)
        cases y
        · have He := Lib.hid (Hne.out fun h => by have := hy.2 h; cases this)
          clear hy f0 f1 g0 g1 g0' g1'
          go_wp2_with fail
          go_ret
          exact ⟨says_no He.out, hB4⟩
        · have He := Lib.hid (Heq.out (hy.1 rfl))
          clear hy f0 f1 g0 g1 g0' g1'
          go_wp2_with fail
          go_roundw
          case rel => exact ⟨j + 1, by omega, by go_num, He.out, hB4⟩
          case measure => simp [intOf]; omega
      · obtain rfl : j = n := by omega
        have He := Lib.hid (show fs.map FileM.pure = gs.map FileM.pure by
          rw [List.take_of_length_le (by rw [List.length_map, Hl.out]; exact Nat.le_refl _), List.take_of_length_le (by rw [List.length_map, Hl'.out]; exact Nat.le_refl _)] at ht
          exact ht)
        clear ht
        go_wp2_with fail
        go_ret
        exact ⟨says_yes He.out, hB⟩
  · have hd : ((n : Int) == (m : Int)) = false := by simp; omega
    have He := Lib.hid (show ¬ fs.map FileM.pure = gs.map FileM.pure from fun h => hnm (by have := congrArg List.length h; rw [List.length_map, List.length_map, Hl.out, Hl'.out] at this; exact this))
    go_wp2_with fail
    go_ret
    exact ⟨says_no He.out, Below.refl _ _⟩

set_option maxRecDepth 100000 in
set_option maxHeartbeats 1000000 in
theorem dev_equalO {w : World} {A : Option Addr} {n c : Nat} {fs : List OpM} {B : Option Addr} {m k : Nat} {gs : List OpM} (hr : Os w w.heap.size A n fs) (hr' : Os w w.heap.size B m gs) (hn : n ≤ 100000) :
    Calls Try.prog 44 #[.slice A n c, .slice B m k, .func (.func 45) #[] #[]] w fun e w' => Says (fs.map OpM.pure = gs.map OpM.pure) e ∧ Below w.heap.size w w' := by
  have Hl := Lib.hid hr.len
  have Hl' := Lib.hid hr'.len
  go_enter Try.func44, Try.ntmps44
  by_cases hnm : n = m
  · subst hnm
    have hd : ((n : Int) == (n : Int)) = true := by simp
    go_wp2_with fail
    go_loopw [17] (fun i wr => ∃ j : Nat, j ≤ n ∧ i = .int .i64 j ∧ (fs.map OpM.pure).take j = (gs.map OpM.pure).take j ∧ Below w.heap.size w wr) (fun i _ => n - (intOf i).toNat)
    case atStart => exact ⟨0, Nat.zero_le _, rfl, by simp, Below.refl _ _⟩
    case round =>
      obtain ⟨j, hj, rfl, ht, hB⟩ := hrel
      by_cases hlt : j < n
      · obtain ⟨b1, o1, f, rfl, hb1, hf, f0, f1, f2, f3, hok, _⟩ := (hr.on hB hB.size).at_ hlt
        obtain ⟨b2, o2, g, rfl, hb2, hg, g0, g1, g2, g3, hok', _⟩ := (hr'.on hB hB.size).at_ hlt
        have hj2 : (0 : Int) ≤ (j : Int) := by omega
        have hj3 : (j : Int) < (n : Int) := by omega
        have hw1 : IntKind.i64.wrap ((j : Int) + 1) = ((j + 1 : Nat) : Int) := by rw [IntKind.wrap_i64]; omega
        have hf' : (fs.map OpM.pure)[j]? = some f.pure := by rw [List.getElem?_map, hf]; rfl
        have hg' : (gs.map OpM.pure)[j]? = some g.pure := by rw [List.getElem?_map, hg]; rfl
        have b4 : Below wr.heap.size wr ((wr.alloc (.cells #[.int .u8 f.kind, .string f.name, .string f.to, .slice f.p.A f.p.n f.p.c] 28)).alloc (.cells #[.int .u8 g.kind, .string g.name, .string g.to, .slice g.p.A g.p.n g.p.c] 28)) := ((Below.refl _ _).alloc (Nat.le_refl _) _).alloc (by simp) _
        have g0' := (((Below.refl wr.heap.size wr).alloc (Nat.le_refl _) (.cells #[.int .u8 f.kind, .string f.name, .string f.to, .slice f.p.A f.p.n f.p.c] 28)).cell (p := ⟨b2, o2 + j * 4, none⟩) hb2).trans g0
        have g1' := (((Below.refl wr.heap.size wr).alloc (Nat.le_refl _) (.cells #[.int .u8 f.kind, .string f.name, .string f.to, .slice f.p.A f.p.n f.p.c] 28)).cell (p := ⟨b2, o2 + j * 4 + 1, none⟩) hb2).trans g1
        have g2' := (((Below.refl wr.heap.size wr).alloc (Nat.le_refl _) (.cells #[.int .u8 f.kind, .string f.name, .string f.to, .slice f.p.A f.p.n f.p.c] 28)).cell (p := ⟨b2, o2 + j * 4 + 2, none⟩) hb2).trans g2
        have g3' := (((Below.refl wr.heap.size wr).alloc (Nat.le_refl _) (.cells #[.int .u8 f.kind, .string f.name, .string f.to, .slice f.p.A f.p.n f.p.c] 28)).cell (p := ⟨b2, o2 + j * 4 + 3, none⟩) hb2).trans g3
        have Hne := Lib.hid (fun h : ¬ f.pure = g.pure => take_ne hf' hg' h)
        have Heq := Lib.hid (fun h : f.pure = g.pure => take_eq hf' hg' h ht)
        have Hb4 := Lib.hid b4
        clear hf hg hf' hg' ht b4
        go_wp2_with fail
        refine (dev_sameOp f g (hok.on Hb4.out Hb4.out.size) (hok'.on Hb4.out Hb4.out.size)).mono ?_
        rintro e w4 ⟨⟨y, rfl, hy⟩, hb⟩
        have hB4 : Below w.heap.size w w4 := hB.trans ((Hb4.out.trans (hb.mono Hb4.out.size)).mono hB.size)
        cases y
        · have He := Lib.hid (Hne.out fun h => by have := hy.2 h; cases this)
          clear hy f0 f1 f2 f3 g0 g1 g2 g3 g0' g1' g2' g3'
          go_wp2_with fail
          go_ret
          exact ⟨says_no He.out, hB4⟩
        · have He := Lib.hid (Heq.out (hy.1 rfl))
          clear hy f0 f1 f2 f3 g0 g1 g2 g3 g0' g1' g2' g3'
          go_wp2_with fail
          go_roundw
          case rel => exact ⟨j + 1, by omega, by go_num, He.out, hB4⟩
          case measure => simp [intOf]; omega
      · obtain rfl : j = n := by omega
        have He := Lib.hid (show fs.map OpM.pure = gs.map OpM.pure by
          rw [List.take_of_length_le (by rw [List.length_map, Hl.out]; exact Nat.le_refl _), List.take_of_length_le (by rw [List.length_map, Hl'.out]; exact Nat.le_refl _)] at ht
          exact ht)
        clear ht
        go_wp2_with fail
        go_ret
        exact ⟨says_yes He.out, hB⟩
  · have hd : ((n : Int) == (m : Int)) = false := by simp; omega
    have He := Lib.hid (show ¬ fs.map OpM.pure = gs.map OpM.pure from fun h => hnm (by have := congrArg List.length h; rw [List.length_map, List.length_map, Hl.out, Hl'.out] at this; exact this))
    go_wp2_with fail
    go_ret
    exact ⟨says_no He.out, Below.refl _ _⟩

set_option maxRecDepth 100000 in
set_option maxHeartbeats 1000000 in
theorem dev_same {w : World} {d d' : DiskP} {A : Option Addr} {n c : Nat} {B : Option Addr} {m k : Nat} {A' : Option Addr} {n' c' : Nat} {B' : Option Addr} {m' k' : Nat} (h : DAt w d A n c B m k) (h' : DAt w d' A' n' c' B' m' k') (hs : Small d) :
    Calls Try.prog 19 #[.agg #[.slice A n c, .slice B m k, .int .i64 d.quota, .int .i64 d.fuse, .bool d.dead], .agg #[.slice A' n' c', .slice B' m' k', .int .i64 d'.quota, .int .i64 d'.fuse, .bool d'.dead]] w fun e w' => Says (d = d') e ∧ Below w.heap.size w w' := by
  obtain ⟨fl, qu, q, u, dd⟩ := d
  obtain ⟨fl', qu', q', u', dd'⟩ := d'
  simp only
  obtain ⟨fs, hf, e1⟩ := h.files
  obtain ⟨os, ho, e2⟩ := h.queue
  obtain ⟨fs', hf', e1'⟩ := h'.files
  obtain ⟨os', ho', e2'⟩ := h'.queue
  have hl := h.len
  have hn1 : n ≤ 1000 := by rw [← hl.1]; exact hs.files
  have hm1 : m ≤ 1000 := by rw [← hl.2]; exact hs.queue
  have E := Lib.hid (⟨e1, e2, e1', e2'⟩ : _ ∧ _ ∧ _ ∧ _)
  have hB := (((Below.refl w.heap.size w).alloc (Nat.le_refl _) (.cells #[.slice A n c, .slice B m k, .int .i64 q, .int .i64 u, .bool dd] 25)).alloc (by simp) (.cells #[.slice A' n' c', .slice B' m' k', .int .i64 q', .int .i64 u', .bool dd'] 25))
  have HB := Lib.hid hB
  clear hl h h' hs e1 e2 e1' e2'
  go_enter Try.func19, Try.ntmps19
  go_wp2_with fail
  obtain ⟨z, hz⟩ : ∃ z, z = w.heap.size := ⟨_, rfl⟩
  obtain ⟨wa, hwa⟩ : ∃ wa, wa = w.alloc (.cells #[.slice A n c, .slice B m k, .int .i64 q, .int .i64 u, .bool dd] 25) := ⟨_, rfl⟩
  obtain ⟨w0, hw0⟩ : ∃ w0, w0 = wa.alloc (.cells #[.slice A' n' c', .slice B' m' k', .int .i64 q', .int .i64 u', .bool dd'] 25) := ⟨_, rfl⟩
  have hsa : wa.heap.size = z + 1 := by rw [hwa, hz]; simp
  have hBa : Below w.heap.size w wa := by rw [hwa]; exact (Below.refl _ _).alloc (Nat.le_refl _) _
  have hB0 : Below w.heap.size w w0 := by rw [hw0]; exact hBa.alloc hBa.size _
  have bz0 : Box5 w0 z 25 (.slice A n c) (.slice B m k) (.int .i64 q) (.int .i64 u) (.bool dd) := by
    have h1 : Box5 wa z 25 (.slice A n c) (.slice B m k) (.int .i64 q) (.int .i64 u) (.bool dd) := by rw [hwa, hz]; exact World.alloc_heap_new w _
    exact h1.below (by rw [hw0]; exact (Below.refl _ _).alloc (Nat.le_refl _) _)
  have by0 : Box5 w0 (z + 1) 25 (.slice A' n' c') (.slice B' m' k') (.int .i64 q') (.int .i64 u') (.bool dd') := by rw [hw0, ← hsa]; exact World.alloc_heap_new wa _
  have he : w0 = (w.alloc (.cells #[.slice A n c, .slice B m k, .int .i64 q, .int .i64 u, .bool dd] 25)).alloc (.cells #[.slice A' n' c', .slice B' m' k', .int .i64 q', .int .i64 u', .bool dd'] 25) := by rw [hw0, hwa]
  rw [← he, ← hz]
  clear hwa hw0 he hsa hBa hz hB HB
  refine (dev_equalF (hf.on hB0 hB0.size) (hf'.on hB0 hB0.size) (by omega)).mono ?_
  rintro e w1 ⟨⟨y1, rfl, hy1⟩, hb1⟩
  rw [E.out.1, E.out.2.2.1] at hy1
  have bz1 := bz0.below hb1
  have by1 := by0.below hb1
  have hB1 : Below w.heap.size w w1 := hB0.trans (hb1.mono hB0.size)
  obtain ⟨⟨k0, k1, k2, k3, k4⟩, _⟩ := box5 bz1
  obtain ⟨⟨r0, r1, r2, r3, r4⟩, _⟩ := box5 by1
  clear hb1 hB0 bz0 by0
  cases y1
  · have He := Lib.hid (show ¬ (⟨fl, qu, q, u, dd⟩ : DiskP) = ⟨fl', qu', q', u', dd'⟩ from fun h => by have := hy1.2 (congrArg DiskP.files h); cases this)
    clear hy1
    go_wp2_with fail
    go_ret
    exact ⟨says_no He.out, hB1⟩
  have Hy1 := Lib.hid (hy1.1 rfl)
  clear hy1
  go_wp2_with fail
  refine (dev_equalO (ho.on hB1 hB1.size) (ho'.on hB1 hB1.size) (by omega)).mono ?_
  rintro e w2 ⟨⟨y2, rfl, hy2⟩, hb2⟩
  rw [E.out.2.1, E.out.2.2.2] at hy2
  have bz2 := bz1.below hb2
  have by2 := by1.below hb2
  have hB2 : Below w.heap.size w w2 := hB1.trans (hb2.mono hB1.size)
  clear k0 k1 k2 k3 k4 r0 r1 r2 r3 r4
  obtain ⟨⟨k0, k1, k2, k3, k4⟩, _⟩ := box5 bz2
  obtain ⟨⟨r0, r1, r2, r3, r4⟩, _⟩ := box5 by2
  clear hb2 hB1 bz1 by1 bz2 by2
  cases y2
  · have He := Lib.hid (show ¬ (⟨fl, qu, q, u, dd⟩ : DiskP) = ⟨fl', qu', q', u', dd'⟩ from fun h => by have := hy2.2 (congrArg DiskP.queue h); cases this)
    clear hy2
    go_wp2_with fail
    go_ret
    exact ⟨says_no He.out, hB2⟩
  have Hy2 := Lib.hid (hy2.1 rfl)
  clear hy2
  by_cases h3 : q = q'
  · have t3 : (q == q') = true := by simpa using h3
    by_cases h4 : u = u'
    · have t4 : (u == u') = true := by simpa using h4
      by_cases h5 : dd = dd'
      · have t5 : (dd == dd') = true := by simpa using h5
        have He := Lib.hid (show (⟨fl, qu, q, u, dd⟩ : DiskP) = ⟨fl', qu', q', u', dd'⟩ by
          have h1 : fl = fl' := Hy1.out
          have h2 : qu = qu' := Hy2.out
          rw [h1, h2, h3, h4, h5])
        clear h3 h4 h5
        go_wp2_with fail
        go_ret
        exact ⟨says_yes He.out, hB2⟩
      · have t5 : (dd == dd') = false := by simpa using h5
        have He := Lib.hid (show ¬ (⟨fl, qu, q, u, dd⟩ : DiskP) = ⟨fl', qu', q', u', dd'⟩ from fun h => h5 (congrArg DiskP.dead h))
        clear h3 h4 h5
        go_wp2_with fail
        go_ret
        exact ⟨says_no He.out, hB2⟩
    · have t4 : (u == u') = false := by simpa using h4
      have He := Lib.hid (show ¬ (⟨fl, qu, q, u, dd⟩ : DiskP) = ⟨fl', qu', q', u', dd'⟩ from fun h => h4 (congrArg DiskP.fuse h))
      clear h3 h4
      go_wp2_with fail
      go_ret
      exact ⟨says_no He.out, hB2⟩
  · have t3 : (q == q') = false := by simpa using h3
    have He := Lib.hid (show ¬ (⟨fl, qu, q, u, dd⟩ : DiskP) = ⟨fl', qu', q', u', dd'⟩ from fun h => h3 (congrArg DiskP.quota h))
    clear h3
    go_wp2_with fail
    go_ret
    exact ⟨says_no He.out, hB2⟩

end Go.Proofs.Ytmfiopopiikbmaa
