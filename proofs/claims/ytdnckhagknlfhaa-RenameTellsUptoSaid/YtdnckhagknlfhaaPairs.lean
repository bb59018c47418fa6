/-
  rename.pairs: the paths and scores of the candidates that were taken, as a new list. Nothing that was there is changed.
-/
import Derived.Test.YtdnckhagknlfhaaTaken
import Derived.Deep.RegionHeld3
namespace Go.Proofs.Ytdnckhagknlfhaa
open Go.RowKit

/-- a pair -/
structure Pr where
  fr : ByteArray
  tt : ByteArray
  sc : Int
deriving DecidableEq
def Pr.cells (x : Pr) : List Value := [.string x.fr, .string x.tt, .int .i64 x.sc]
theorem prs_len : ∀ x : Pr, x.cells.length = 3 := fun _ => rfl
theorem prs_one : ∀ x : Pr, ∀ v ∈ x.cells, v.oneCell' = true := fun x v hv => by
  simp [Pr.cells] at hv; rcases hv with rfl | rfl | rfl <;> rfl
/-- a list of pairs that the call is making behind w0 -/
def Prs (w0 w : World) (v : Value) (L : List Pr) : Prop := w.ownsRow w0.heap.size 37 3 v L.length (L.flatMap Pr.cells) ∧ Below w0.heap.size w0 w
theorem Prs.nil (w : World) : Prs w w (.slice none 0 0) [] := ⟨World.ownsRow_nil _ _ _ _, Below.refl _ _⟩
theorem Prs.up {w0 w w' : World} {v : Value} {L : List Pr} (h : Prs w0 w v L) (hb : Below w.heap.size w w') : Prs w0 w' v L :=
  ⟨World.ownsRow.kept h.1 (grown_of_below hb none) (by cases v.ownBlock <;> simp), h.2.trans (hb.mono h.2.size)⟩
theorem info37 : (Try.prog.info? 37).map (fun i => (i.zero, i.size, i.bytes)) = some (some (.agg #[.string ⟨#[]⟩, .string ⟨#[]⟩, .int .i64 0]), 3, 40) := by kernel_rfl
theorem Prs.push {w0 W : World} {v : Value} {L : List Pr} (h : Prs w0 W v L) (m : Pr) (l : Nat) (hl : L.length + 1 = l) (hL : l ≤ 65536) :
    ∃ A' c' W', (Builtin.append_ #[29, 29] 29 #[v, .slice (some ⟨W.heap.size, 0, none⟩) 1 1]).run Try.prog (W.alloc (.cells #[.string m.fr, .string m.tt, .int .i64 m.sc] 37)) = .ok (.slice A' l c') W' ∧ Prs w0 W' (.slice A' l c') (L ++ [m]) ∧ (W.alloc (.cells #[.string m.fr, .string m.tt, .int .i64 m.sc] 37)).grownBy W' v.ownBlock := by
  subst hl
  obtain ⟨i0, hi, hz0, hz1, hz2⟩ := info_parts info37
  have hal : Below W.heap.size W (W.alloc (.cells #[.string m.fr, .string m.tt, .int .i64 m.sc] 37)) := (Below.refl _ _).alloc (Nat.le_refl _) _
  have h2 := h.up hal
  have hnew := Blk.new W 37 #[.string m.fr, .string m.tt, .int .i64 m.sc]
  obtain ⟨v', W', hrun, hown, hg, _, _⟩ := run_append_own_at (P := Try.prog) (W.alloc (.cells #[.string m.fr, .string m.tt, .int .i64 m.sc] 37)) w0.heap.size 29 29 37 i0 _ 3 40 Try.underlying29 hi hz0 hz1 hz2 rfl (by decide) v L.length (L.flatMap Pr.cells) h2.1
    ⟨W.heap.size, 0, none⟩ 1 1 m.cells rfl (by
      intro j u hu
      rw [add_zero_block, hnew.cell j]
      simpa [Pr.cells] using hu) (prs_one m) (by unfold maxLen; omega) (by omega) h2.2.size
  obtain ⟨A', c', rfl⟩ := own_slice hown
  refine ⟨A', c', W', hrun, ⟨?_, h2.2.grown hg h2.2.size (fun k hk => (h2.1.lt k hk).1)⟩, hg⟩
  rw [List.flatMap_append, List.length_append]
  simpa using hown
theorem clone_any (s : ByteArray) (w : World) (hs : s.size ≤ 140737488355328) :
    Calls Try.prog 37 #[.string s] w fun e w' => e = .returned (.string s) ∧ Below w.heap.size w w' := Sp.clone_any s w hs
/-- the pair of a candidate -/
def prOf (L1 L2 : List FM) (c : CM) : Pr := ⟨(L1.getD c.o.toNat default).path, (L2.getD c.f.toNat default).path, c.s⟩
/-- the pairs of those that were taken -/
def prsOf (L1 L2 : List FM) (F : List CM) : List Pr := (F.filter fun c => decide (c ≠ z0)).map (prOf L1 L2)
theorem prsOf_take {L1 L2 : List FM} {F : List CM} {k : Nat} {c : CM} (h : F[k]? = some c) : prsOf L1 L2 (F.take (k + 1)) = prsOf L1 L2 (F.take k) ++ if c = z0 then [] else [prOf L1 L2 c] := by
  obtain ⟨hk, rfl⟩ := List.getElem?_eq_some_iff.1 h
  rw [List.take_succ_eq_append_getElem hk]
  unfold prsOf
  rw [List.filter_append, List.map_append]
  by_cases e : F[k] = z0
  · rw [if_pos e]; simp [e]
  · rw [if_neg e]; simp [e]
theorem prsOf_len (L1 L2 : List FM) (F : List CM) : (prsOf L1 L2 F).length ≤ F.length := by
  unfold prsOf
  rw [List.length_map]
  exact List.length_filter_le _ _

theorem step_push {ops : Array Oper} {o : Oper} {a : Act} {K : Act → World → Prop} {Q : Exit → Act → World → Prop} {E : Prop} {sl x : Operand} {w0 W : World} {v : Value} {L : List Pr} {m : Pr} {l : Nat} (h : Prs w0 W v L) (hl : L.length + 1 = l) (hL : l ≤ 65536)
    (hgd : o.guard = none) (hop : o.op = Op.call { callee := Callee.builtin Builtin.append, args := #[sl, x], argTypes := #[29, 29] }) (hty : o.type = 29) (hs : a.eval sl = v) (hx : a.eval x = .slice (some ⟨W.heap.size, 0, none⟩) 1 1)
    (hK : ∀ A' c' W', Prs w0 W' (.slice A' l c') (L ++ [m]) → (W.alloc (.cells #[.string m.fr, .string m.tt, .int .i64 m.sc] 37)).grownBy W' v.ownBlock → K (a.put o.dst (.slice A' l c')) W') :
    if Region.wanted o (yielded ops a.tmps) = true then Oper.wp Try.prog o a (W.alloc (.cells #[.string m.fr, .string m.tt, .int .i64 m.sc] 37)) K Q else E := by
  obtain ⟨A', c', W', hrun, h1, h2⟩ := h.push m l hl hL
  exact step_append_run hgd hop hty hs hx hrun (hK A' c' W' h1 h2)
/-- five cells -/
def Five (q0 q1 q2 q3 q4 : Addr) (v0 v1 v2 v3 v4 : Value) (W : World) : Prop := W.cell? q0 = some v0 ∧ W.cell? q1 = some v1 ∧ W.cell? q2 = some v2 ∧ W.cell? q3 = some v3 ∧ W.cell? q4 = some v4
theorem Five.up {q0 q1 q2 q3 q4 : Addr} {v0 v1 v2 v3 v4 : Value} {W W' : World} (h : Five q0 q1 q2 q3 q4 v0 v1 v2 v3 v4 W) (hb : Below W.heap.size W W') : Five q0 q1 q2 q3 q4 v0 v1 v2 v3 v4 W' :=
  ⟨(hb.cell (lt_of_cell h.1)).trans h.1, (hb.cell (lt_of_cell h.2.1)).trans h.2.1, (hb.cell (lt_of_cell h.2.2.1)).trans h.2.2.1, (hb.cell (lt_of_cell h.2.2.2.1)).trans h.2.2.2.1, (hb.cell (lt_of_cell h.2.2.2.2)).trans h.2.2.2.2⟩
theorem Five.grown {q0 q1 q2 q3 q4 : Addr} {v0 v1 v2 v3 v4 : Value} {W W' : World} {row : Option Nat} (h : Five q0 q1 q2 q3 q4 v0 v1 v2 v3 v4 W) (hg : W.grownBy W' row) (n0 : some q0.block ≠ row) (n1 : some q1.block ≠ row) (n2 : some q2.block ≠ row) (n3 : some q3.block ≠ row) (n4 : some q4.block ≠ row) : Five q0 q1 q2 q3 q4 v0 v1 v2 v3 v4 W' :=
  ⟨(World.cell?_of_block (hg.block _ (lt_of_cell h.1) n0)).trans h.1, (World.cell?_of_block (hg.block _ (lt_of_cell h.2.1) n1)).trans h.2.1, (World.cell?_of_block (hg.block _ (lt_of_cell h.2.2.1) n2)).trans h.2.2.1, (World.cell?_of_block (hg.block _ (lt_of_cell h.2.2.2.1) n3)).trans h.2.2.2.1, (World.cell?_of_block (hg.block _ (lt_of_cell h.2.2.2.2) n4)).trans h.2.2.2.2⟩

set_option maxHeartbeats 6000000 in
set_option maxRecDepth 100000 in
theorem pairs_any (A B C : Option Addr) (L1 L2 : List FM) (F : List CM) (n1 n2 n c d e0 : Nat) (w : World) (ha : FilesAt w A L1) (hb : FilesAt w B L2) (hc : CandsAt w C F) (hn1 : L1.length = n1) (hn2 : L2.length = n2) (hn : F.length = n) (hnl : n ≤ 250)
    (hok : ∀ c ∈ F, c = z0 ∨ OkC n1 n2 c) (hs1 : ∀ x ∈ L1, x.path.size ≤ 140737488355328) (hs2 : ∀ x ∈ L2, x.path.size ≤ 140737488355328) :
    Calls Try.prog 26 #[.slice A n1 c, .slice B n2 d, .slice C n e0] w fun e w' => ∃ A' c', e = .returned (.slice A' (prsOf L1 L2 F).length c') ∧ Prs w w' (.slice A' (prsOf L1 L2 F).length c') (prsOf L1 L2 F) := by
  subst hn hn1 hn2
  have HOK := Lib.hid hok
  have HS1 := Lib.hid hs1
  have HS2 := Lib.hid hs2
  clear hok hs1 hs2
  go_enter Try.func26, Try.ntmps26
  go_wp2_with fail
  go_loopw [8, 13] (fun v i wr => ∃ k : Nat, k ≤ F.length ∧ i = .int .i64 k ∧ Prs w wr v (prsOf L1 L2 (F.take k)) ∧ Blk wr w.heap.size 80 #[.int .i64 0, .int .i64 0, .int .i64 0]) (fun _ i _ => F.length - (intOf i).toNat)
  case atStart => exact ⟨0, Nat.zero_le _, rfl, (Prs.nil w).up ((Below.refl _ _).alloc (Nat.le_refl _) _), Blk.new w _ _⟩
  case round =>
    obtain ⟨k, hk, rfl, hT, hbz⟩ := hrel
    by_cases q1 : k < F.length
    · obtain ⟨x, hx⟩ : ∃ x, F[k]? = some x := ⟨_, List.getElem?_eq_getElem q1⟩
      obtain ⟨a, rfl, hal, c0, c1, c2⟩ := (hc.up hT.2).at_ hx
      have HTK := Lib.hid (prsOf_take (L1 := L1) (L2 := L2) hx)
      have hal2 : Below wr.heap.size wr (wr.alloc (.cells #[.int .i64 x.o, .int .i64 x.f, .int .i64 x.s] 80)) := (Below.refl _ _).alloc (Nat.le_refl _) _
      have HT2 := Lib.hid (hT.up hal2)
      have HBZ := Lib.hid (hbz.alloc (.cells #[.int .i64 x.o, .int .i64 x.f, .int .i64 x.s] 80))
      have u0 : (wr.alloc (.cells #[.int .i64 x.o, .int .i64 x.f, .int .i64 x.s] 80)).cell? ⟨w.heap.size, 0, none⟩ = some (.int .i64 0) := HBZ.out.cell 0
      have u1 : (wr.alloc (.cells #[.int .i64 x.o, .int .i64 x.f, .int .i64 x.s] 80)).cell? ⟨w.heap.size, 1, none⟩ = some (.int .i64 0) := HBZ.out.cell 1
      have u2 : (wr.alloc (.cells #[.int .i64 x.o, .int .i64 x.f, .int .i64 x.s] 80)).cell? ⟨w.heap.size, 2, none⟩ = some (.int .i64 0) := HBZ.out.cell 2
      rcases HOK.out x (List.mem_of_getElem? hx) with e | hxo
      · have HN : Hid (prsOf L1 L2 (F.take (k + 1)) = prsOf L1 L2 (F.take k)) := Lib.hid (by rw [HTK.out, if_pos e, List.append_nil])
        subst e
        simp only [z0] at c0 c1 c2 u0 u1 u2 HT2 HBZ
        clear hx hT hbz hal2
        go_wp2_with fail
        go_roundw
        case rel => exact ⟨k + 1, by omega, by go_num, by rw [HN.out]; exact HT2.out, HBZ.out⟩
        case measure => simp [intOf]; omega
      · have hxz : ¬ x = z0 := fun e => by have := hxo.2.2.2.2; rw [e] at this; simp [z0] at this
        obtain ⟨i, hi⟩ : ∃ i : Nat, x.o = (i : Int) := ⟨x.o.toNat, by have := hxo.1; omega⟩
        obtain ⟨j, hj⟩ : ∃ j : Nat, x.f = (j : Int) := ⟨x.f.toNat, by have := hxo.2.2.1; omega⟩
        have hi1 : i < L1.length := by have := hxo.2.1; omega
        have hj1 : j < L2.length := by have := hxo.2.2.2.1; omega
        obtain ⟨xs, hxs⟩ : ∃ xs, x.s = xs := ⟨_, rfl⟩
        obtain ⟨X, hX⟩ : ∃ X, L1[i]? = some X := ⟨_, List.getElem?_eq_getElem hi1⟩
        obtain ⟨Y, hY⟩ : ∃ Y, L2[j]? = some Y := ⟨_, List.getElem?_eq_getElem hj1⟩
        have hxs1 : 1 ≤ xs := by have := hxo.2.2.2.2; omega
        have HNEW : Hid (prsOf L1 L2 (F.take (k + 1)) = prsOf L1 L2 (F.take k) ++ [⟨X.path, Y.path, xs⟩]) := Lib.hid (by
          rw [HTK.out, if_neg hxz]
          unfold prOf
          rw [hi, hj, hxs, Int.toNat_natCast, Int.toNat_natCast, List.getD_eq_getElem?_getD, List.getD_eq_getElem?_getD, hX, hY]
          rfl)
        obtain ⟨a1, rfl, hal1, p0, _⟩ := (ha.up hT.2).at_ hX
        obtain ⟨b1, rfl, hbl1, p1, _⟩ := (hb.up hT.2).at_ hY
        have hpx := HS1.out X (List.mem_of_getElem? hX)
        have hpy := HS2.out Y (List.mem_of_getElem? hY)
        have hlen := prsOf_len L1 L2 (F.take k)
        rw [List.length_take] at hlen
        have hlen2 : (prsOf L1 L2 (F.take k)).length + 1 ≤ 65536 := by omega
        rw [hi] at c0
        rw [hj] at c1
        rw [hxs] at c2
        rw [hi, hj, hxs] at u0 u1 u2 hal2 HT2 HBZ
        have hrl := hT.1.lt
        have hab : a1.block < w.heap.size := by obtain ⟨a', e', h', _⟩ := ha.at_ hX; injection e' with e'; subst e'; exact h'
        have hbb : b1.block < w.heap.size := by obtain ⟨a', e', h', _⟩ := hb.at_ hY; injection e' with e'; subst e'; exact h'
        obtain ⟨W2, hW2⟩ : ∃ W2, W2 = wr.alloc (.cells #[.int .i64 (i : Int), .int .i64 (j : Int), .int .i64 xs] 80) := ⟨_, rfl⟩
        obtain ⟨g, hg⟩ : ∃ g, g = wr.heap.size := ⟨_, rfl⟩
        have hF : Five ⟨g, 0, none⟩ ⟨g, 1, none⟩ ⟨g, 2, none⟩ (a1.add (i * 2)) (b1.add (j * 2)) (.int .i64 (i : Int)) (.int .i64 (j : Int)) (.int .i64 xs) (.string X.path) (.string Y.path) W2 := by
          have hbx := Blk.new wr 80 #[.int .i64 (i : Int), .int .i64 (j : Int), .int .i64 xs]
          rw [hW2, hg]
          exact ⟨hbx.cell 0, hbx.cell 1, hbx.cell 2, (hal2.cell (by rw [add_block]; exact hal1)).trans p0, (hal2.cell (by rw [add_block]; exact hbl1)).trans p1⟩
        have HK : Hid (∀ W W7, W.grownBy W7 u8.ownBlock → Five ⟨g, 0, none⟩ ⟨g, 1, none⟩ ⟨g, 2, none⟩ (a1.add (i * 2)) (b1.add (j * 2)) (.int .i64 (i : Int)) (.int .i64 (j : Int)) (.int .i64 xs) (.string X.path) (.string Y.path) W → Five ⟨g, 0, none⟩ ⟨g, 1, none⟩ ⟨g, 2, none⟩ (a1.add (i * 2)) (b1.add (j * 2)) (.int .i64 (i : Int)) (.int .i64 (j : Int)) (.int .i64 xs) (.string X.path) (.string Y.path) W7) := Lib.hid (fun W W7 hg7 h => by
          have n0 : some g ≠ u8.ownBlock := fun e => by have := (hrl g e.symm).2; omega
          exact h.grown hg7 n0 n0 n0 (fun e => by have := (hrl _ e.symm).1; rw [add_block] at this; omega) (fun e => by have := (hrl _ e.symm).1; rw [add_block] at this; omega))
        have hP := HT2.out.up ((Below.refl _ _).drew)
        have hZ : Blk W2.drew w.heap.size 80 #[.int .i64 0, .int .i64 0, .int .i64 0] := by rw [hW2]; exact HBZ.out
        have hz1 : ((xs == 0) : Bool) = false := by simp; omega
        have hz2 : ¬ xs = 0 := by omega
        rw [← hW2] at hP
        obtain ⟨f0, f1, f2, f3, f4⟩ := hF
        have hi2 : (i : Int) < (L1.length : Int) := by omega
        have hj2 : (j : Int) < (L2.length : Int) := by omega
        have HT8 := Lib.hid hT
        clear hxz hxo hxs hi hj hX hY hx hT hbz hal2 hal1 hbl1 p0 p1 hrl hab hbb HT2 HBZ HTK
        go_wp2_with fail
        rw [← hW2, ← hg]
        clear hW2 hg u0 u1 u2
        go_region_held3 (fun W => W.cell? ⟨g, 0, none⟩ = some (.int .i64 (i : Int)) ∧ W.cell? ⟨g, 1, none⟩ = some (.int .i64 (j : Int)) ∧ W.cell? ⟨g, 2, none⟩ = some (.int .i64 xs) ∧ W.cell? (a1.add (i * 2)) = some (.string X.path) ∧ W.cell? (b1.add (j * 2)) = some (.string Y.path))
          (first | (go_split_ands; exact ⟨by assumption, by assumption, by assumption, by assumption, by assumption⟩) | exact h7 | (go_split_ands; exact Five.up (show Five _ _ _ _ _ _ _ _ _ _ _ from ⟨by assumption, by assumption, by assumption, by assumption, by assumption⟩) hb) | (go_split_ands; exact Five.up (show Five _ _ _ _ _ _ _ _ _ _ _ from ⟨by assumption, by assumption, by assumption, by assumption, by assumption⟩) ((Below.refl _ _).drew)) | (go_split_ands; exact Five.up (show Five _ _ _ _ _ _ _ _ _ _ _ from ⟨by assumption, by assumption, by assumption, by assumption, by assumption⟩) ((Below.refl _ _).alloc (Nat.le_refl _) _)))
          (first | (go_split_ands; refine step_push (m := ⟨X.path, Y.path, xs⟩) hP rfl hlen2 rfl rfl rfl ?_ ?_ ?_; (focus (first | (simp [Act.eval]; done) | (simp [Act.eval, Act.put]; done))); (focus (first | (simp [Act.eval]; done) | (simp [Act.eval, Act.put]; done))); intro A7 c7 W7 hP7 hg7; have hZa := hZ.alloc (.cells #[.string X.path, .string Y.path, .int .i64 xs] 37); have hPa := hP.up ((Below.refl _ _).alloc (Nat.le_refl _) (.cells #[.string X.path, .string Y.path, .int .i64 xs] 37)); have hZ7 := hZa.grown hg7 (own_blk_ne hPa.1 hZa (by decide)); clear hZa hPa; have h7 := HK.out _ _ hg7 (by go_split_ands; exact ⟨by assumption, by assumption, by assumption, by assumption, by assumption⟩)) | (go_at_call 37; refine (clone_any _ _ (by first | exact hpx | exact hpy)).mono ?_; rintro e w' ⟨rfl, hb⟩; replace hP := hP.up hb; replace hZ := hZ.below hb hZ.lt))
        all_goals
          go_wp2_with fail
          go_roundw
          case rel => exact ⟨k + 1, by omega, by go_num, by rw [HNEW.out]; exact hP7, hZ7⟩
          case measure => simp [intOf]; omega
    · rw [List.take_of_length_le (by omega)] at hT
      obtain ⟨A3, c3, rfl⟩ := own_slice hT.1
      have HT := Lib.hid hT
      clear hT
      go_wp2_with fail
      go_ret
      exact ⟨A3, c3, rfl, HT.out⟩

end Go.Proofs.Ytdnckhagknlfhaa
