/-
  rename.candidates: each file of the one side with each one of the other side that is alike enough, in their order. Nothing that was there is changed.
-/
import Derived.Test.YtdnckhagknlfhaaFiles
namespace Go.Proofs.Ytdnckhagknlfhaa
open Go.RowKit

/-- how alike two files are, by their places -/
def scAt (L1 L2 : List FM) (i j : Nat) : Nat := Al.score (L1.getD i default).lines (L2.getD j default).lines
/-- the candidates of one file, among the first ones of the other side -/
def cRow (L1 L2 : List FM) (m : Int) (i : Nat) : Nat → List CM
  | 0 => []
  | j + 1 => cRow L1 L2 m i j ++ if m ≤ (scAt L1 L2 i j : Int) then [⟨i, j, (scAt L1 L2 i j : Nat)⟩] else []
def cAll (L1 L2 : List FM) (m : Int) : Nat → List CM
  | 0 => []
  | i + 1 => cAll L1 L2 m i ++ cRow L1 L2 m i L2.length
theorem cRow_len (L1 L2 : List FM) (m : Int) (i : Nat) : ∀ j, (cRow L1 L2 m i j).length ≤ j
  | 0 => by simp [cRow]
  | j + 1 => by
    have := cRow_len L1 L2 m i j
    rw [cRow, List.length_append]
    split <;> simp <;> omega
theorem cAll_len (L1 L2 : List FM) (m : Int) : ∀ i, (cAll L1 L2 m i).length ≤ i * L2.length
  | 0 => by simp [cAll]
  | i + 1 => by
    have h1 := cAll_len L1 L2 m i
    have h2 := cRow_len L1 L2 m i L2.length
    rw [cAll, List.length_append, Nat.add_mul, Nat.one_mul]
    omega
theorem cRow_mem {L1 L2 : List FM} {m : Int} {i : Nat} {c : CM} : ∀ {n}, c ∈ cRow L1 L2 m i n ↔ ∃ j, j < n ∧ m ≤ (scAt L1 L2 i j : Int) ∧ c = ⟨i, j, (scAt L1 L2 i j : Nat)⟩
  | 0 => by simp [cRow]
  | n + 1 => by
    rw [cRow, List.mem_append, cRow_mem]
    constructor
    · rintro (⟨j, h1, h2, h3⟩ | h)
      · exact ⟨j, by omega, h2, h3⟩
      · split at h
        · rename_i hm
          simp at h
          exact ⟨n, by omega, hm, h⟩
        · cases h
    · rintro ⟨j, h1, h2, h3⟩
      by_cases e : j = n
      · subst e; right; rw [if_pos h2]; simp [h3]
      · left; exact ⟨j, by omega, h2, h3⟩
theorem cAll_mem {L1 L2 : List FM} {m : Int} {c : CM} : ∀ {n}, c ∈ cAll L1 L2 m n ↔ ∃ i j, i < n ∧ j < L2.length ∧ m ≤ (scAt L1 L2 i j : Int) ∧ c = ⟨i, j, (scAt L1 L2 i j : Nat)⟩
  | 0 => by simp [cAll]
  | n + 1 => by
    rw [cAll, List.mem_append, cAll_mem, cRow_mem]
    constructor
    · rintro (⟨i, j, h1, h2, h3, h4⟩ | ⟨j, h2, h3, h4⟩)
      · exact ⟨i, j, by omega, h2, h3, h4⟩
      · exact ⟨n, j, by omega, h2, h3, h4⟩
    · rintro ⟨i, j, h1, h2, h3, h4⟩
      by_cases e : i = n
      · subst e; right; exact ⟨j, h2, h3, h4⟩
      · left; exact ⟨i, j, by omega, h2, h3, h4⟩

/-- a list of candidates that the call is making behind w0 -/
def Cds (w0 w : World) (v : Value) (L : List CM) : Prop := w.ownsRow w0.heap.size 80 3 v L.length (L.flatMap CM.cells) ∧ Below w0.heap.size w0 w
theorem Cds.nil (w : World) : Cds w w (.slice none 0 0) [] := ⟨World.ownsRow_nil _ _ _ _, Below.refl _ _⟩
theorem Cds.up {w0 w w' : World} {v : Value} {L : List CM} (h : Cds w0 w v L) (hb : Below w.heap.size w w') : Cds w0 w' v L :=
  ⟨World.ownsRow.kept h.1 (grown_of_below hb none) (by cases v.ownBlock <;> simp), h.2.trans (hb.mono h.2.size)⟩
theorem info80 : (Try.prog.info? 80).map (fun i => (i.zero, i.size, i.bytes)) = some (some (.agg #[.int .i64 0, .int .i64 0, .int .i64 0]), 3, 24) := by kernel_rfl
theorem Cds.push {w0 W : World} {v : Value} {L : List CM} (h : Cds w0 W v L) (m : CM) (l : Nat) (hl : L.length + 1 = l) (hL : l ≤ 65536) :
    ∃ A' c' W', (Builtin.append_ #[52, 52] 52 #[v, .slice (some ⟨W.heap.size, 0, none⟩) 1 1]).run Try.prog (W.alloc (.cells #[.int .i64 m.o, .int .i64 m.f, .int .i64 m.s] 80)) = .ok (.slice A' l c') W' ∧ Cds w0 W' (.slice A' l c') (L ++ [m]) ∧ W.grownBy W' v.ownBlock := by
  subst hl
  obtain ⟨i0, hi, hz0, hz1, hz2⟩ := info_parts info80
  have hal : Below W.heap.size W (W.alloc (.cells #[.int .i64 m.o, .int .i64 m.f, .int .i64 m.s] 80)) := (Below.refl _ _).alloc (Nat.le_refl _) _
  have h2 := h.up hal
  have hnew := Blk.new W 80 #[.int .i64 m.o, .int .i64 m.f, .int .i64 m.s]
  obtain ⟨v', W', hrun, hown, hg, _, _⟩ := run_append_own_at (P := Try.prog) (W.alloc (.cells #[.int .i64 m.o, .int .i64 m.f, .int .i64 m.s] 80)) w0.heap.size 52 52 80 i0 _ 3 24 Try.underlying52 hi hz0 hz1 hz2 rfl (by decide) v L.length (L.flatMap CM.cells) h2.1
    ⟨W.heap.size, 0, none⟩ 1 1 m.cells rfl (by
      intro j u hu
      rw [add_zero_block, hnew.cell j]
      simpa [CM.cells] using hu) (cands_one m) (by unfold maxLen; omega) (by omega) h2.2.size
  obtain ⟨A', c', rfl⟩ := own_slice hown
  refine ⟨A', c', W', hrun, ⟨?_, h2.2.grown hg h2.2.size (fun k hk => (h2.1.lt k hk).1)⟩, ⟨hg.os, hg.tape, hg.output, by have := hg.size; simp at this; omega, fun i hi hne => (hg.block i (by simp; omega) hne).trans (Below.heap_alloc W _ i hi)⟩⟩
  rw [List.flatMap_append, List.length_append]
  simpa using hown
theorem score_at (A B : Option Addr) (ss ts : List ByteArray) (c d r : Nat) (w : World) (ha : Strs w w.heap.size A ss) (hb : Strs w w.heap.size B ts) (h1 : ss.length ≤ 1048576) (h2 : ts.length ≤ 1048576) (hs : ∀ s ∈ ss, s.size ≤ maxLen) (ht : ∀ s ∈ ts, s.size ≤ maxLen) (hr : Al.score ss ts = r) :
    Calls Try.prog 17 #[.slice A ss.length c, .slice B ts.length d] w fun e w' => e = .returned (.int .i64 (r : Int)) ∧ Below w.heap.size w w' := by
  subst hr
  exact score_any A B ss ts c d w ha hb h1 h2 hs ht
/-- files that Score can be asked of -/
def FitF (L : List FM) : Prop := L.length ≤ 250 ∧ ∀ x ∈ L, x.lines.length ≤ 1048576 ∧ ∀ s ∈ x.lines, s.size ≤ maxLen
theorem FilesAt.at_ {w : World} {A : Option Addr} {L : List FM} (h : FilesAt w A L) {k : Nat} {x : FM} (hk : L[k]? = some x) :
    ∃ a, A = some a ∧ a.block < w.heap.size ∧ w.cell? (a.add (k * 2)) = some (.string x.path) ∧ w.cell? ⟨(a.add (k * 2)).block, (a.add (k * 2)).off + 1, none⟩ = some (.slice x.A x.lines.length x.c) := by
  obtain ⟨a, e, hb, hc⟩ := h.cells (by intro e; subst e; simp at hk)
  exact ⟨a, e, hb, hc k x hk⟩

set_option maxHeartbeats 4000000 in
set_option maxRecDepth 100000 in
theorem cands_any (A B : Option Addr) (L1 L2 : List FM) (n1 n2 c d : Nat) (t : Int) (w : World) (ha : FilesAt w A L1) (hb : FilesAt w B L2) (hn1 : L1.length = n1) (hn2 : L2.length = n2) (h1 : FitF L1) (h2 : FitF L2) :
    Calls Try.prog 23 #[.slice A n1 c, .slice B n2 d, .int .i64 t] w fun e w' => ∃ v, e = .returned v ∧ Cds w w' v (cAll L1 L2 (max t 1) L1.length) := by
  subst hn1 hn2
  have HF1 := Lib.hid h1
  have HF2 := Lib.hid h2
  have k1 := h1.1
  have k2 := h2.1
  have hprod : L1.length * L2.length ≤ 62500 := Nat.mul_le_mul k1 k2
  have HPR := Lib.hid hprod
  clear h1 h2 hprod
  by_cases ht : t < 1
  · have HMX : Hid (max t 1 = 1) := Lib.hid (by omega)
    rw [HMX.out]
    go_enter Try.func23, Try.ntmps23
    go_wp2_with fail
    go_loopw [8, 18] (fun v i wr => ∃ k : Nat, k ≤ L1.length ∧ i = .int .i64 k ∧ Cds w wr v (cAll L1 L2 1 k)) (fun _ i _ => L1.length - (intOf i).toNat)
    case atStart => exact ⟨0, Nat.zero_le _, rfl, Cds.nil w⟩
    case round =>
      obtain ⟨k, hk, rfl, hT⟩ := hrel
      by_cases g1 : k < L1.length
      · obtain ⟨x, hx⟩ : ∃ x, L1[k]? = some x := ⟨_, List.getElem?_eq_getElem g1⟩
        obtain ⟨a, rfl, hal, c0, c1⟩ := (ha.up hT.2).at_ hx
        have HX1 := Lib.hid (show (L1.getD k default) = x by rw [List.getD_eq_getElem?_getD, hx]; rfl)
        obtain ⟨hxl, hxs⟩ := HF1.out.2 x (List.mem_of_getElem? hx)
        have hxm := List.mem_of_getElem? hx
        have HXM := Lib.hid hxm
        have hbox := Blk.new wr 76 #[.string x.path, .slice x.A x.lines.length x.c]
        have hal2 : Below wr.heap.size wr (wr.alloc (.cells #[.string x.path, .slice x.A x.lines.length x.c] 76)) := (Below.refl _ _).alloc (Nat.le_refl _) _
        have HT2 : Hid (Cds w (wr.alloc (.cells #[.string x.path, .slice x.A x.lines.length x.c] 76)) u8 (cAll L1 L2 1 k ++ cRow L1 L2 1 k 0)) := Lib.hid (by rw [cRow, List.append_nil]; exact hT.up hal2)
        have HXS := Lib.hid hxs
        obtain ⟨g, hg⟩ : ∃ g, g = wr.heap.size := ⟨_, rfl⟩
        have HBX : Hid (Blk (wr.alloc (.cells #[.string x.path, .slice x.A x.lines.length x.c] 76)) g 76 #[.string x.path, .slice x.A x.lines.length x.c]) := Lib.hid (by rw [hg]; exact hbox)
        have HG := Lib.hid hg
        clear hT hx hxm hbox hal2 hxs hg
        go_wp2_with fail
        rw [← HG.out]
        go_loopw [8, 25] (fun v i wy => ∃ l : Nat, l ≤ L2.length ∧ i = .int .i64 l ∧ Cds w wy v (cAll L1 L2 1 k ++ cRow L1 L2 1 k l) ∧ Blk wy g 76 #[.string x.path, .slice x.A x.lines.length x.c]) (fun _ i _ => L2.length - (intOf i).toNat)
        case atStart => exact ⟨0, Nat.zero_le _, rfl, HT2.out, HBX.out⟩
        case round =>
          obtain ⟨l, hl, rfl, hC, hbx⟩ := hrel
          clear HT2 HBX HG
          by_cases g2 : l < L2.length
          · obtain ⟨y, hy⟩ : ∃ y, L2[l]? = some y := ⟨_, List.getElem?_eq_getElem g2⟩
            obtain ⟨b, rfl, hbl, d0, d1⟩ := (hb.up hC.2).at_ hy
            have HY1 := Lib.hid (show (L2.getD l default) = y by rw [List.getD_eq_getElem?_getD, hy]; rfl)
            obtain ⟨hyl, hys⟩ := HF2.out.2 y (List.mem_of_getElem? hy)
            have HYS := Lib.hid hys
            have hal2 : Below wr.heap.size wr (wr.alloc (.cells #[.string y.path, .slice y.A y.lines.length y.c] 76)) := (Below.refl _ _).alloc (Nat.le_refl _) _
            have HSX : Hid (Strs (wr.alloc (.cells #[.string y.path, .slice y.A y.lines.length y.c] 76)) (wr.alloc (.cells #[.string y.path, .slice y.A y.lines.length y.c] 76)).heap.size x.A x.lines) := Lib.hid (((ha.up hC.2).up hal2).lines x HXM.out)
            have HSY : Hid (Strs (wr.alloc (.cells #[.string y.path, .slice y.A y.lines.length y.c] 76)) (wr.alloc (.cells #[.string y.path, .slice y.A y.lines.length y.c] 76)).heap.size y.A y.lines) := Lib.hid (((hb.up hC.2).up hal2).lines y (List.mem_of_getElem? hy))
            obtain ⟨s, hs⟩ : ∃ s, Al.score x.lines y.lines = s := ⟨_, rfl⟩
            have HSC := Lib.hid hs
            have HSA : Hid (scAt L1 L2 k l = s) := Lib.hid (by unfold scAt; rw [HX1.out, HY1.out]; exact hs)
            have q1 : (wr.alloc (.cells #[.string y.path, .slice y.A y.lines.length y.c] 76)).cell? ⟨g, 1, none⟩ = some (.slice x.A x.lines.length x.c) := (hbx.alloc _).cell 1
            have HC : Hid (Cds w (wr.alloc (.cells #[.string y.path, .slice y.A y.lines.length y.c] 76)) u8 (cAll L1 L2 1 k ++ cRow L1 L2 1 k l)) := Lib.hid (hC.up hal2)
            have HBX := Lib.hid (hbx.alloc (.cells #[.string y.path, .slice y.A y.lines.length y.c] 76))
            have HLEN : Hid ((cAll L1 L2 1 k ++ cRow L1 L2 1 k l).length + 1 ≤ 65536) := Lib.hid (by
              rw [List.length_append]
              have e1 := cAll_len L1 L2 1 k
              have e2 := cRow_len L1 L2 1 k l
              have e3 : (k + 1) * L2.length ≤ L1.length * L2.length := Nat.mul_le_mul_right _ (by omega)
              rw [Nat.add_mul, Nat.one_mul] at e3
              have e4 := HPR.out
              omega)
            clear hy hys hal2 hs hC hbx
            go_wp2_with fail
            refine (score_at x.A y.A x.lines y.lines x.c y.c s _ HSX.out HSY.out hxl hyl HXS.out HYS.out HSC.out).mono ?_
            rintro e w3 ⟨rfl, hbn⟩
            have HC3 := Lib.hid (HC.out.up hbn)
            have hbx3 := HBX.out.below hbn HBX.out.lt
            have HBX3 := Lib.hid hbx3
            clear hbn hbx3 HSX HSY
            by_cases hm : 1 ≤ (s : Int)
            · obtain ⟨N, hN⟩ : ∃ N, (cAll L1 L2 1 k ++ cRow L1 L2 1 k l).length + 1 = N := ⟨_, rfl⟩
              obtain ⟨A7, c7, W7, hrun7, hC7, hg7⟩ := HC3.out.push ⟨k, l, s⟩ N hN (by rw [← hN]; exact HLEN.out)
              clear hN
              dsimp only at hrun7
              have HR7 := Lib.hid hrun7
              have HC7 : Hid (Cds w W7 (.slice A7 N c7) (cAll L1 L2 1 k ++ cRow L1 L2 1 k (l + 1))) := Lib.hid (by rw [cRow, HSA.out, if_pos hm, ← List.append_assoc]; exact hC7)
              have HBX7 := Lib.hid (HBX3.out.grown hg7 (own_blk_ne HC3.out.1 HBX3.out (by decide)))
              have dm : decide (1 ≤ (s : Int)) = true := by simpa using hm
              clear hrun7 hC7 hg7
              go_wp2_with (at_builtin; refine wpList_append_run rfl rfl (by simp [Region.wanted]) rfl rfl HR7.out ?_)
              go_roundw
              case rel => exact ⟨l + 1, by omega, by go_num, HC7.out, HBX7.out⟩
              case measure => simp [intOf]; omega
            · have HC7 : Hid (Cds w w3 u8 (cAll L1 L2 1 k ++ cRow L1 L2 1 k (l + 1))) := Lib.hid (by rw [cRow, HSA.out, if_neg hm, List.append_nil]; exact HC3.out)
              have dm : decide (1 ≤ (s : Int)) = false := by simpa using hm
              go_wp2_with fail
              go_roundw
              case rel => exact ⟨l + 1, by omega, by go_num, HC7.out, HBX3.out⟩
              case measure => simp [intOf]; omega
          · have HC : Hid (Cds w wr u8 (cAll L1 L2 1 (k + 1))) := Lib.hid (by
              have e : l = L2.length := by omega
              subst e
              exact hC)
            clear hC hbx
            go_wp2_with fail
            go_roundw
            case rel => exact ⟨k + 1, by omega, by go_num, HC.out⟩
            case measure => simp [intOf]; omega
      · have HC : Hid (Cds w wr u8 (cAll L1 L2 1 L1.length)) := Lib.hid (by
          have e : k = L1.length := by omega
          subst e
          exact hT)
        clear hT
        go_wp2_with fail
        go_ret
        exact ⟨_, rfl, HC.out⟩

  · have HMX : Hid (max t 1 = t) := Lib.hid (by omega)
    rw [HMX.out]
    go_enter Try.func23, Try.ntmps23
    go_wp2_with fail
    go_loopw [8, 18] (fun v i wr => ∃ k : Nat, k ≤ L1.length ∧ i = .int .i64 k ∧ Cds w wr v (cAll L1 L2 t k)) (fun _ i _ => L1.length - (intOf i).toNat)
    case atStart => exact ⟨0, Nat.zero_le _, rfl, Cds.nil w⟩
    case round =>
      obtain ⟨k, hk, rfl, hT⟩ := hrel
      by_cases g1 : k < L1.length
      · obtain ⟨x, hx⟩ : ∃ x, L1[k]? = some x := ⟨_, List.getElem?_eq_getElem g1⟩
        obtain ⟨a, rfl, hal, c0, c1⟩ := (ha.up hT.2).at_ hx
        have HX1 := Lib.hid (show (L1.getD k default) = x by rw [List.getD_eq_getElem?_getD, hx]; rfl)
        obtain ⟨hxl, hxs⟩ := HF1.out.2 x (List.mem_of_getElem? hx)
        have hxm := List.mem_of_getElem? hx
        have HXM := Lib.hid hxm
        have hbox := Blk.new wr 76 #[.string x.path, .slice x.A x.lines.length x.c]
        have hal2 : Below wr.heap.size wr (wr.alloc (.cells #[.string x.path, .slice x.A x.lines.length x.c] 76)) := (Below.refl _ _).alloc (Nat.le_refl _) _
        have HT2 : Hid (Cds w (wr.alloc (.cells #[.string x.path, .slice x.A x.lines.length x.c] 76)) u8 (cAll L1 L2 t k ++ cRow L1 L2 t k 0)) := Lib.hid (by rw [cRow, List.append_nil]; exact hT.up hal2)
        have HXS := Lib.hid hxs
        obtain ⟨g, hg⟩ : ∃ g, g = wr.heap.size := ⟨_, rfl⟩
        have HBX : Hid (Blk (wr.alloc (.cells #[.string x.path, .slice x.A x.lines.length x.c] 76)) g 76 #[.string x.path, .slice x.A x.lines.length x.c]) := Lib.hid (by rw [hg]; exact hbox)
        have HG := Lib.hid hg
        clear hT hx hxm hbox hal2 hxs hg
        go_wp2_with fail
        rw [← HG.out]
        go_loopw [8, 25] (fun v i wy => ∃ l : Nat, l ≤ L2.length ∧ i = .int .i64 l ∧ Cds w wy v (cAll L1 L2 t k ++ cRow L1 L2 t k l) ∧ Blk wy g 76 #[.string x.path, .slice x.A x.lines.length x.c]) (fun _ i _ => L2.length - (intOf i).toNat)
        case atStart => exact ⟨0, Nat.zero_le _, rfl, HT2.out, HBX.out⟩
        case round =>
          obtain ⟨l, hl, rfl, hC, hbx⟩ := hrel
          clear HT2 HBX HG
          by_cases g2 : l < L2.length
          · obtain ⟨y, hy⟩ : ∃ y, L2[l]? = some y := ⟨_, List.getElem?_eq_getElem g2⟩
            obtain ⟨b, rfl, hbl, d0, d1⟩ := (hb.up hC.2).at_ hy
            have HY1 := Lib.hid (show (L2.getD l default) = y by rw [List.getD_eq_getElem?_getD, hy]; rfl)
            obtain ⟨hyl, hys⟩ := HF2.out.2 y (List.mem_of_getElem? hy)
            have HYS := Lib.hid hys
            have hal2 : Below wr.heap.size wr (wr.alloc (.cells #[.string y.path, .slice y.A y.lines.length y.c] 76)) := (Below.refl _ _).alloc (Nat.le_refl _) _
            have HSX : Hid (Strs (wr.alloc (.cells #[.string y.path, .slice y.A y.lines.length y.c] 76)) (wr.alloc (.cells #[.string y.path, .slice y.A y.lines.length y.c] 76)).heap.size x.A x.lines) := Lib.hid (((ha.up hC.2).up hal2).lines x HXM.out)
            have HSY : Hid (Strs (wr.alloc (.cells #[.string y.path, .slice y.A y.lines.length y.c] 76)) (wr.alloc (.cells #[.string y.path, .slice y.A y.lines.length y.c] 76)).heap.size y.A y.lines) := Lib.hid (((hb.up hC.2).up hal2).lines y (List.mem_of_getElem? hy))
            obtain ⟨s, hs⟩ : ∃ s, Al.score x.lines y.lines = s := ⟨_, rfl⟩
            have HSC := Lib.hid hs
            have HSA : Hid (scAt L1 L2 k l = s) := Lib.hid (by unfold scAt; rw [HX1.out, HY1.out]; exact hs)
            have q1 : (wr.alloc (.cells #[.string y.path, .slice y.A y.lines.length y.c] 76)).cell? ⟨g, 1, none⟩ = some (.slice x.A x.lines.length x.c) := (hbx.alloc _).cell 1
            have HC : Hid (Cds w (wr.alloc (.cells #[.string y.path, .slice y.A y.lines.length y.c] 76)) u8 (cAll L1 L2 t k ++ cRow L1 L2 t k l)) := Lib.hid (hC.up hal2)
            have HBX := Lib.hid (hbx.alloc (.cells #[.string y.path, .slice y.A y.lines.length y.c] 76))
            have HLEN : Hid ((cAll L1 L2 t k ++ cRow L1 L2 t k l).length + 1 ≤ 65536) := Lib.hid (by
              rw [List.length_append]
              have e1 := cAll_len L1 L2 t k
              have e2 := cRow_len L1 L2 t k l
              have e3 : (k + 1) * L2.length ≤ L1.length * L2.length := Nat.mul_le_mul_right _ (by omega)
              rw [Nat.add_mul, Nat.one_mul] at e3
              have e4 := HPR.out
              omega)
            clear hy hys hal2 hs hC hbx
            go_wp2_with fail
            refine (score_at x.A y.A x.lines y.lines x.c y.c s _ HSX.out HSY.out hxl hyl HXS.out HYS.out HSC.out).mono ?_
            rintro e w3 ⟨rfl, hbn⟩
            have HC3 := Lib.hid (HC.out.up hbn)
            have hbx3 := HBX.out.below hbn HBX.out.lt
            have HBX3 := Lib.hid hbx3
            clear hbn hbx3 HSX HSY
            by_cases hm : t ≤ (s : Int)
            · obtain ⟨N, hN⟩ : ∃ N, (cAll L1 L2 t k ++ cRow L1 L2 t k l).length + 1 = N := ⟨_, rfl⟩
              obtain ⟨A7, c7, W7, hrun7, hC7, hg7⟩ := HC3.out.push ⟨k, l, s⟩ N hN (by rw [← hN]; exact HLEN.out)
              clear hN
              dsimp only at hrun7
              have HR7 := Lib.hid hrun7
              have HC7 : Hid (Cds w W7 (.slice A7 N c7) (cAll L1 L2 t k ++ cRow L1 L2 t k (l + 1))) := Lib.hid (by rw [cRow, HSA.out, if_pos hm, ← List.append_assoc]; exact hC7)
              have HBX7 := Lib.hid (HBX3.out.grown hg7 (own_blk_ne HC3.out.1 HBX3.out (by decide)))
              have dm : decide (t ≤ (s : Int)) = true := by simpa using hm
              clear hrun7 hC7 hg7
              go_wp2_with (at_builtin; refine wpList_append_run rfl rfl (by simp [Region.wanted]) rfl rfl HR7.out ?_)
              go_roundw
              case rel => exact ⟨l + 1, by omega, by go_num, HC7.out, HBX7.out⟩
              case measure => simp [intOf]; omega
            · have HC7 : Hid (Cds w w3 u8 (cAll L1 L2 t k ++ cRow L1 L2 t k (l + 1))) := Lib.hid (by rw [cRow, HSA.out, if_neg hm, List.append_nil]; exact HC3.out)
              have dm : decide (t ≤ (s : Int)) = false := by simpa using hm
              go_wp2_with fail
              go_roundw
              case rel => exact ⟨l + 1, by omega, by go_num, HC7.out, HBX3.out⟩
              case measure => simp [intOf]; omega
          · have HC : Hid (Cds w wr u8 (cAll L1 L2 t (k + 1))) := Lib.hid (by
              have e : l = L2.length := by omega
              subst e
              exact hC)
            clear hC hbx
            go_wp2_with fail
            go_roundw
            case rel => exact ⟨k + 1, by omega, by go_num, HC.out⟩
            case measure => simp [intOf]; omega
      · have HC : Hid (Cds w wr u8 (cAll L1 L2 t L1.length)) := Lib.hid (by
          have e : k = L1.length := by omega
          subst e
          exact hT)
        clear hT
        go_wp2_with fail
        go_ret
        exact ⟨_, rfl, HC.out⟩


end Go.Proofs.Ytdnckhagknlfhaa
