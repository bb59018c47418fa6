/-
  LruLast returns true, if package lru is as chapter 13 says: what Get tells is what was Put last, by that Key, or nothing; there are never more slots than there is room for. Nothing that was there is changed.
-/
import Derived.Test.YtndhaickelbkiaaKeeps
import Derived.Deep.DeepCutAuto
namespace Go.Proofs.Ytndhaickelbkiaa
open Go.RowKit

def bcells (z : Bool) : List Value := [.bool z]
theorem b_len : ∀ x : Bool, (bcells x).length = 1 := fun _ => rfl
abbrev BoolsAt (w : World) (A : Option Addr) (zs : List Bool) : Prop := RowAt bcells 1 w A zs
theorem bools_cell {w : World} {A : Option Addr} {zs : List Bool} (h : BoolsAt w A zs) {k : Nat} {z : Bool} (hk : zs[k]? = some z) : ∃ a, A = some a ∧ a.block < w.heap.size ∧ w.cell? (a.add k) = some (.bool z) := by
  obtain ⟨a, e, hb, hc⟩ := h.at_ hk
  have := hc 0 _ rfl
  rw [Nat.mul_one, Nat.add_zero] at this
  exact ⟨a, e, hb, this⟩

/-- one of four texts -/
def v4 (m : Nat) : ByteArray := if m = 0 then ⟨#[97]⟩ else if m = 1 then ⟨#[98]⟩ else if m = 2 then ⟨#[99]⟩ else ⟨#[100]⟩
theorem v4_at (m : Nat) (h : m < 4) : (#[.string ⟨#[97]⟩, .string ⟨#[98]⟩, .string ⟨#[99]⟩, .string ⟨#[100]⟩] : Array Value)[m]? = some (.string (v4 m)) := by
  rcases (show m = 0 ∨ m = 1 ∨ m = 2 ∨ m = 3 by omega) with rfl | rfl | rfl | rfl <;> rfl
theorem v4_size (m : Nat) : (v4 m).size ≤ 140737488355328 := by
  unfold v4
  split
  · show 1 ≤ _; omega
  · split
    · show 1 ≤ _; omega
    · split
      · show 1 ≤ _; omega
      · show 1 ≤ _; omega
/-- the account of what was put last -/
def lastC (f : Nat → ByteArray) : Array Value := #[.string (f 0), .string (f 1), .string (f 2), .string (f 3), .string (f 4), .string (f 5), .string (f 6), .string (f 7), .string (f 8), .string (f 9), .string (f 10), .string (f 11)]
theorem twelve {i : Nat} (h : i < 12) : i = 0 ∨ i = 1 ∨ i = 2 ∨ i = 3 ∨ i = 4 ∨ i = 5 ∨ i = 6 ∨ i = 7 ∨ i = 8 ∨ i = 9 ∨ i = 10 ∨ i = 11 := by omega
theorem lastC_at (f : Nat → ByteArray) (i : Nat) (h : i < 12) : (lastC f)[i]? = some (.string (f i)) := by
  rcases twelve h with rfl | rfl | rfl | rfl | rfl | rfl | rfl | rfl | rfl | rfl | rfl | rfl <;> rfl
theorem lastC_set (f : Nat → ByteArray) (i : Nat) (h : i < 12) (v : ByteArray) : (lastC f).setIfInBounds i (.string v) = lastC (fun j => if j = i then v else f j) := by
  rcases twelve h with rfl | rfl | rfl | rfl | rfl | rfl | rfl | rfl | rfl | rfl | rfl | rfl <;> rfl
def idx (x : Sl) : Nat := x.sum.toNat * 2 + x.len.toNat
def KeyR (x : Sl) : Prop := 0 ≤ x.sum ∧ x.sum < 6 ∧ 0 ≤ x.len ∧ x.len < 2
theorem idx_lt {x : Sl} (h : KeyR x) : idx x < 12 := by obtain ⟨h1, h2, h3, h4⟩ := h; unfold idx; omega
theorem idx_ne {x y : Sl} (hx : KeyR x) (hy : KeyR y) (h : x.key ≠ y.key) : idx x ≠ idx y := fun e => by
  obtain ⟨h1, h2, h3, h4⟩ := hx
  obtain ⟨g1, g2, g3, g4⟩ := hy
  unfold idx at e
  apply h
  exact Prod.ext (by show x.sum = y.sum; omega) (by show x.len = y.len; omega)
theorem keyR_slotOf (z : Int) (v : ByteArray) : KeyR (slotOf z v) := by
  have h1 := pickI_range z 6 (by omega)
  have h2 := pickI_range (z.tdiv 6) 2 (by omega)
  exact ⟨h1.1, h1.2, h2.1, h2.2⟩
def LastR (f : Nat → ByteArray) (L : List Sl) : Prop := ∀ x ∈ L, KeyR x ∧ x.val = f (idx x)
theorem LastR.put {f : Nat → ByteArray} {L : List Sl} (h : LastR f L) {s : Sl} (hs : KeyR s) (n : Nat) : LastR (fun j => if j = idx s then s.val else f j) ((allS L s).take n) := fun y hy => by
  rcases P13.mem_all.1 (List.mem_of_mem_take hy) with rfl | ⟨hy', hk⟩
  · exact ⟨hs, by simp⟩
  · obtain ⟨h1, h2⟩ := h y hy'
    refine ⟨h1, ?_⟩
    show y.val = if idx y = idx s then s.val else f (idx y)
    rw [if_neg (idx_ne h1 hs hk)]
    exact h2
theorem LastR.got {f : Nat → ByteArray} {L : List Sl} (h : LastR f L) {x : Sl} (hx : x ∈ L) (k : Int × Int) : LastR f (x :: withoutS L k) := fun y hy => by
  rcases List.mem_cons.1 hy with rfl | hy'
  · exact h _ hx
  · exact h y (P13.mem_without.1 hy').1
/-- what LruLast asks besides: that what comes out is new memory -/
def PutNew (N O : List Sl) (b : Int) (w : World) (e : Ending) (w' : World) : Prop :=
  ∃ (A B : Option Addr) (n m c d : Nat), e = .returned (.tuple #[.slice A n c, .slice B m d, .int .i64 b]) ∧ N.length = n ∧ O.length = m ∧ SlotsAt w' A N ∧ SlotsAt w' B O ∧ Below w.heap.size w w' ∧ (∀ a, A = some a → w.heap.size ≤ a.block)
def GetNew (x : Sl) (M : List Sl) (b : Int) (w : World) (e : Ending) (w' : World) : Prop :=
  ∃ (A : Option Addr) (n c : Nat), e = .returned (.tuple #[.agg #[.int .u64 x.sum, .int .i64 x.len, .string x.left, .string x.right, .string x.val], .slice A n c, .int .i64 b]) ∧ M.length = n ∧ SlotsAt w' A M ∧ Below w.heap.size w w' ∧ (∀ a, A = some a → w.heap.size ≤ a.block)
structure LruNew : Prop where
  get : ∀ (A : Option Addr) (L : List Sl) (n c : Nat) (ks kl : Int) (w : World) (x : Sl) (M : List Sl) (b : Int), getM L (ks, kl) = (x, M, b) → SlotsAt w A L → L.length = n → L.length ≤ 100 → FitS L →
    Calls Try.prog 16 #[.slice A n c, .agg #[.int .u64 ks, .int .i64 kl]] w (GetNew x M b w)
  put : ∀ (A : Option Addr) (L : List Sl) (n c : Nat) (room : Int) (s : Sl) (w : World) (N O : List Sl) (b : Int), putM L room s = (N, O, b) → SlotsAt w A L → L.length = n → L.length ≤ 100 → FitS L → FitS [s] → -9223372036854775808 ≤ room → room ≤ 9223372036854775807 →
    Calls Try.prog 20 #[.slice A n c, .int .i64 room, .agg #[.int .u64 s.sum, .int .i64 s.len, .string s.left, .string s.right, .string s.val]] w (PutNew N O b w)
/-- what holds at the head of each round -/
structure LInv (w wr : World) (A5 : Option Addr) (L : List Sl) (f : Nat → ByteArray) (gl : Nat) : Prop where
  at_ : SlotsAt wr A5 L
  right : rightB L = true
  fit : FitS L
  last : LastR f L
  blk : Blk wr gl 46 (lastC f)
  below : Below w.heap.size w wr
  ne_ : ∀ a, A5 = some a → gl ≠ a.block
theorem LInv.up {w wr w' : World} {A5 : Option Addr} {L : List Sl} {f : Nat → ByteArray} {gl : Nat} (h : LInv w wr A5 L f gl) (hb : Below wr.heap.size wr w') : LInv w w' A5 L f gl :=
  ⟨h.at_.up hb, h.right, h.fit, h.last, Blk.below h.blk hb h.blk.lt, below_step h.below hb, h.ne_⟩
/-- the box of a slot that a region makes -/
def BoxMade (w : World) (x : Sl) (s : Value) (wx : World) : Prop := ∃ g, s = .pointer (some ⟨g, 0, none⟩) ∧ Blk wx g 28 #[.int .u64 x.sum, .int .i64 x.len, .string x.left, .string x.right, .string x.val] ∧ Below w.heap.size w wx ∧ w.heap.size ≤ g
theorem op_alloc (W : World) :
    ∃ g W1, (∀ (o : Oper) (a : Act), o.op = Op.alloc 28 → (execOp a.eval o).run Try.prog W = .ok (.value (.pointer (some ⟨g, 0, none⟩))) W1) ∧ Blk W1 g 28 #[.int .u64 zeroS.sum, .int .i64 zeroS.len, .string zeroS.left, .string zeroS.right, .string zeroS.val] ∧ Below W.heap.size W W1 ∧ W.heap.size ≤ g := by
  refine ⟨W.heap.size, W.alloc (.cells #[.int .u64 0, .int .i64 0, .string ⟨#[]⟩, .string ⟨#[]⟩, .string ⟨#[]⟩] 28), fun o a ho => ?_, Blk.new _ _ _, (Below.refl _ _).alloc (Nat.le_refl _) _, Nat.le_refl _⟩
  rw [show execOp a.eval o = execOp a.eval { o with op := Op.alloc 28 } from by rw [← ho]]
  kernel_rfl
theorem op_store_text (g i : Nat) (v : ByteArray) (f : Nat → ByteArray) (hi : i < 12) (W : World) (hb : Blk W g 46 (lastC f)) :
    ∃ W1, (∀ (o : Oper) (a : Act) (p q : Operand), o.op = Op.store 9 p q → a.eval p = .pointer (some ⟨g, i, none⟩) → a.eval q = .string v → (execOp a.eval o).run Try.prog W = .ok .skip W1) ∧
      Blk W1 g 46 (lastC fun j => if j = i then v else f j) ∧ W.grownBy W1 (some g) := by
  have y0 := (Blk.cell hb i).trans (lastC_at f i hi)
  have z0 := Blk.frozen hb i
  refine ⟨W.setCell ⟨g, i, none⟩ (.string v), fun o a p q ho hx hy => ?_, ?_, grown_set _ _ _ _⟩
  · simp only [execOp, ho, hx, hy]
    go_simp
  · rw [← lastC_set f i hi v]
    exact Blk.set_ hb i _
theorem kept_below {w0 W W1 : World} {g : Nat} (h : Below w0.heap.size w0 W) (hg : W.grownBy W1 (some g)) (hn : w0.heap.size ≤ g) : Below w0.heap.size w0 W1 := h.grown hg h.size (fun k hk => by injection hk with hk; omega)

set_option maxHeartbeats 16000000 in
set_option maxRecDepth 100000 in
theorem last_any (H : LruOk) (HNW : LruNew) (A B : Option Addr) (zs : List Int) (bs : List Bool) (n c m d : Nat) (room : Int) (w : World) (ha : IntsAt w A zs) (hn : zs.length = n) (h1 : n ≤ 9223372036854775807) (hz : InRange zs)
    (hb : BoolsAt w B bs) (hm : bs.length = m) (h2 : m ≤ 9223372036854775807) (r1 : -9223372036854775808 ≤ room) (r2 : room ≤ 9223372036854775807) :
    Calls Try.prog 4 #[.slice A n c, .slice B m d, .int .i64 room] w fun e w' => e = .returned (.bool true) ∧ Below w.heap.size w w' := by
  subst hn hm
  have HZ := Lib.hid ha
  have HI := Lib.hid hz
  have HBS0 := Lib.hid hb
  clear ha hz hb
  obtain ⟨p, hp⟩ : ∃ p, pickI room 8 = p := ⟨_, rfl⟩
  obtain ⟨p1, p2⟩ := pickI_range room 8 (by omega)
  rw [hp] at p1 p2
  have HP := Lib.hid hp
  clear hp
  go_enter Try.func4, Try.ntmps4
  go_wp2_with fail
  refine (awake_any H _).mono ?_
  rintro e wA ⟨rfl, hB⟩
  have HBA := Lib.hid hB
  clear hB
  go_wp2_with fail
  refine (pick_any room 8 _ r1 r2 (by omega) (by omega)).mono ?_
  rintro e wp ⟨rfl, rfl⟩
  rw [HP.out]
  go_wp2_with fail
  obtain ⟨gl, hgl⟩ : ∃ gl, gl = wA.heap.size := ⟨_, rfl⟩
  have hbl := Blk.new wA 46 (lastC fun _ => ⟨#[]⟩)
  have hal : Below wA.heap.size wA (wA.alloc (.cells (lastC fun _ => ⟨#[]⟩) 46)) := (Below.refl _ _).alloc (Nat.le_refl _) _
  obtain ⟨wl, hwl⟩ : ∃ wl, wl = wA.alloc (.cells (lastC fun _ => ⟨#[]⟩) 46) := ⟨_, rfl⟩
  rw [← hwl] at hbl hal
  unfold lastC at hwl
  rw [← hwl]
  have HGL : Hid (w.heap.size ≤ gl) := Lib.hid (by rw [hgl]; exact HBA.out.size)
  rw [← hgl] at hbl ⊢
  have HW := Lib.hid (below_step HBA.out hal)
  have HBL := Lib.hid hbl
  clear hgl hbl hal hwl
  go_loopw [9, 11] (fun l i wr => ∃ (k : Nat) (A5 : Option Addr) (L : List Sl) (c5 : Nat) (f : Nat → ByteArray), k ≤ 30 ∧ k ≤ zs.length ∧ i = .int .i64 k ∧ l = .slice A5 L.length c5 ∧ (L.length : Int) ≤ p ∧ Hid (LInv w wr A5 L f gl)) (fun _ i _ => 30 - (intOf i).toNat)
  case atStart => exact ⟨0, none, [], 0, fun _ => ⟨#[]⟩, by omega, Nat.zero_le _, rfl, rfl, p1, Lib.hid ⟨RowAt.nil, by rfl, FitS.nil, (fun x hx => by cases hx), HBL.out, HW.out, (fun a ha => by cases ha)⟩⟩
  case round =>
    obtain ⟨k, A5, L, c5, f, hk, hkz, rfl, rfl, hLp, HV⟩ := hrel
    have hL7 : L.length ≤ 7 := by omega
    by_cases gk : k < zs.length ∧ k < 30
    case neg =>
      have hfin : Hid (Calls Try.prog 13 #[.slice A5 L.length c5] wr fun e w' => e = .returned (.bool true) ∧ Below wr.heap.size wr w') := Lib.hid (H.right A5 L L.length c5 wr true HV.out.right HV.out.at_ rfl (by omega) HV.out.fit)
      by_cases g1 : k < zs.length
      · have g2 : ¬ k < 30 := fun h => gk ⟨g1, h⟩
        clear gk
        go_wp2_with fail
        refine hfin.out.mono ?_
        rintro e w2 ⟨rfl, hB⟩
        have HB2 := Lib.hid (below_step HV.out.below hB)
        clear hB
        go_wp2_with fail
        go_ret
        exact ⟨rfl, HB2.out⟩
      · clear gk
        go_wp2_with fail
        refine hfin.out.mono ?_
        rintro e w2 ⟨rfl, hB⟩
        have HB2 := Lib.hid (below_step HV.out.below hB)
        clear hB
        go_wp2_with fail
        go_ret
        exact ⟨rfl, HB2.out⟩
    obtain ⟨g1, g2⟩ := gk
    obtain ⟨z, hzk⟩ : ∃ z, zs[k]? = some z := ⟨_, List.getElem?_eq_getElem g1⟩
    obtain ⟨hz1, hz2⟩ := HI.out z (List.mem_of_getElem? hzk)
    have HZ' := Lib.hid (HZ.out.up HV.out.below)
    have HZK := Lib.hid hzk
    obtain ⟨a, rfl, _, y0⟩ := ints_cell HZ'.out hzk
    obtain ⟨m, hm⟩ : ∃ m, k % 4 = m := ⟨_, rfl⟩
    have HM := Lib.hid hm
    have hk3 : m < 4 := by rw [← hm]; exact Nat.mod_lt _ (by omega)
    have hk3a : (0 : Int) ≤ (m : Int) := by omega
    have hk3b : (m : Int) < 4 := by omega
    obtain ⟨x, hx⟩ : ∃ x, x = slotOf z (v4 m) := ⟨_, rfl⟩
    have HS := Lib.hid hx
    have HFX := Lib.hid (show FitS [x] by rw [hx]; exact fit_slotOf _ _ (v4_size _))
    have HKX := Lib.hid (show KeyR x by rw [hx]; exact keyR_slotOf _ _)
    clear hzk hx hm
    go_wp2_with fail
    go_cut [12] (fun s12 wx => BoxMade wr x s12 wx)
    case first =>
        refine wp_region_noPanic ?_
        refine wp_region_held_drew (S := fun W => Below wr.heap.size wr W) (by kernel_rfl) ((Below.refl wr.heap.size wr).drew) (fun hS0 => ?_)
        change wpAnyH _ _ _ _ _ 12 #[false, false, false, false, false, false, false, false, false, false, false, false] _ (World.drew _)
        refine wpAnyH_take (i := 0) (v := .slice (some a) zs.length c) rfl (by kernel_rfl) (by kernel_rfl) (by kernel_rfl) (fun _ _ _ h => h) (Or.inl ⟨by rfl, fun w' hS' => by exact op_move rfl rfl⟩) hS0 ?_
        change wpAnyH _ _ _ _ _ _ _ (Act.put _ (some 32) (.slice (some a) zs.length c)) _
        simp only [Act.put, List.setIfInBounds_toArray, List.set_cons_zero, List.set_cons_succ]
        refine wpAnyH_take (i := 1) (v := .int .i64 (k : Int)) rfl (by kernel_rfl) (by kernel_rfl) (by kernel_rfl) (fun _ _ _ h => h) (Or.inl ⟨by rfl, fun w' hS' => by exact op_move rfl rfl⟩) hS0 ?_
        change wpAnyH _ _ _ _ _ _ _ (Act.put _ (some 33) (.int .i64 (k : Int))) _
        simp only [Act.put, List.setIfInBounds_toArray, List.set_cons_zero, List.set_cons_succ]
        refine wpAnyH_take (i := 2) (v := .pointer (some (a.add k))) rfl (by kernel_rfl) (by kernel_rfl) (by kernel_rfl) (fun _ _ _ h => h) (Or.inl ⟨by rfl, fun w' hS' => by go_simp⟩) hS0 ?_
        change wpAnyH _ _ _ _ _ _ _ (Act.put _ (some 34) (.pointer (some (a.add k)))) _
        simp only [Act.put, List.setIfInBounds_toArray, List.set_cons_zero, List.set_cons_succ]
        refine wpAnyH_take (i := 3) (v := .int .i64 z) rfl (by kernel_rfl) (by kernel_rfl) (by kernel_rfl) (fun _ _ _ h => h) (Or.inl ⟨by rfl, fun w' hS' => by obtain ⟨a', ea, _, y0⟩ := ints_cell (HZ'.out.up hS') HZK.out; injection ea with ea; subst ea; go_simp⟩) hS0 ?_
        change wpAnyH _ _ _ _ _ _ _ (Act.put _ (some 35) (.int .i64 z)) _
        simp only [Act.put, List.setIfInBounds_toArray, List.set_cons_zero, List.set_cons_succ]
        refine wpAnyH_take (i := 5) (v := .int .i64 (k : Int)) rfl (by kernel_rfl) (by kernel_rfl) (by kernel_rfl) (fun _ _ _ h => h) (Or.inl ⟨by rfl, fun w' hS' => by exact op_move rfl rfl⟩) hS0 ?_
        change wpAnyH _ _ _ _ _ _ _ (Act.put _ (some 37) (.int .i64 (k : Int))) _
        simp only [Act.put, List.setIfInBounds_toArray, List.set_cons_zero, List.set_cons_succ]
        refine wpAnyH_take (i := 6) (v := .int .i64 (m : Int)) rfl (by kernel_rfl) (by kernel_rfl) (by kernel_rfl) (fun _ _ _ h => h) (Or.inl ⟨by rfl, fun w' hS' => by rw [← HM.out]; exact op_rem k 4 (by omega) (by omega) rfl rfl⟩) hS0 ?_
        change wpAnyH _ _ _ _ _ _ _ (Act.put _ (some 38) (.int .i64 (m : Int))) _
        simp only [Act.put, List.setIfInBounds_toArray, List.set_cons_zero, List.set_cons_succ]
        refine wpAnyH_ready (rs := [4, 10]) (by kernel_rfl) (by simp) (AllReadyH.cons rfl (fun K hK => ?_) (AllReadyH.cons rfl (fun K hK => ?_) (AllReadyH.nil)))
        · skip
          obtain ⟨g2, W1, hr5, hb6, hB7⟩ := op_strs4 wr.drew ⟨#[97]⟩ ⟨#[98]⟩ ⟨#[99]⟩ ⟨#[100]⟩
          refine step_op_run (hr5 _ _ rfl) rfl ?_
          refine hK.out _ _ (hS0.trans (hB7.mono hS0.size)) (fun hS3 => ?_)
          clear hK K
          change wpAnyH _ _ _ _ _ _ _ (Act.put _ (some 36) (.slice (some ⟨g2, 0, none⟩) 4 4)) _
          simp only [Act.put, List.setIfInBounds_toArray, List.set_cons_zero, List.set_cons_succ]
          have hS4 : Below wr.heap.size wr W1 ∧ Blk W1 g2 9 #[.string ⟨#[97]⟩, .string ⟨#[98]⟩, .string ⟨#[99]⟩, .string ⟨#[100]⟩] := ⟨hS3, hb6⟩
          refine wpAnyH_more (S' := fun W => Below wr.heap.size wr W ∧ Blk W g2 9 #[.string ⟨#[97]⟩, .string ⟨#[98]⟩, .string ⟨#[99]⟩, .string ⟨#[100]⟩]) (fun _ h => h.1) ?_
          refine wpAnyH_take (i := 7) (v := .pointer (some ⟨g2, m, none⟩)) rfl (by kernel_rfl) (by kernel_rfl) (by kernel_rfl) (fun _ _ _ h => h) (Or.inl ⟨by rfl, fun w' hS' => by go_simp⟩) hS4 ?_
          change wpAnyH _ _ _ _ _ _ _ (Act.put _ (some 39) (.pointer (some ⟨g2, m, none⟩))) _
          simp only [Act.put, List.setIfInBounds_toArray, List.set_cons_zero, List.set_cons_succ]
          refine wpAnyH_take (i := 8) (v := .string (v4 m)) rfl (by kernel_rfl) (by kernel_rfl) (by kernel_rfl) (fun _ _ _ h => h) (Or.inl ⟨by rfl, fun w' hS' => by have y0 := text_at hS'.2 (v4_at m hk3); go_simp⟩) hS4 ?_
          change wpAnyH _ _ _ _ _ _ _ (Act.put _ (some 40) (.string (v4 m))) _
          simp only [Act.put, List.setIfInBounds_toArray, List.set_cons_zero, List.set_cons_succ]
          refine wpAnyH_ready (rs := [9, 10]) (by kernel_rfl) (by simp) (AllReadyH.cons rfl (fun K hK => ?_) (AllReadyH.cons rfl (fun K hK => ?_) (AllReadyH.nil)))
          · skip
            go_simp
            refine (slot_any z (v4 m) _ hz1 hz2).mono ?_
            rintro e W8 ⟨rfl, hB10⟩
            rw [← HS.out]
            refine hK.out _ _ ⟨hS4.1.trans (hB10.mono hS4.1.size), Blk.below hS4.2 hB10 hS4.2.lt⟩ (fun hS9 => ?_)
            clear hK K
            simp only [List.setIfInBounds_toArray, List.set_cons_zero, List.set_cons_succ]
            refine wpAnyH_ready (rs := [10]) (by kernel_rfl) (by simp) (AllReadyH.cons rfl (fun K hK => ?_) (AllReadyH.nil))
            · skip
              obtain ⟨g12, W11, hr14, hb15, hB16, hg17⟩ := op_alloc W8
              refine step_op_run (hr14 _ _ rfl) rfl ?_
              have hl18 : wr.heap.size ≤ g12 := Nat.le_trans hS9.1.size hg17
              refine hK.out _ _ ⟨hS9.1.trans (hB16.mono hS9.1.size), Blk.below hS9.2 hB16 hS9.2.lt⟩ (fun hS13 => ?_)
              clear hK K
              change wpAnyH _ _ _ _ _ _ _ (Act.put _ (some 12) (.pointer (some ⟨g12, 0, none⟩))) _
              simp only [Act.put, List.setIfInBounds_toArray, List.set_cons_zero, List.set_cons_succ]
              refine wpAnyH_ready (rs := [11]) (by kernel_rfl) (by simp) (AllReadyH.cons rfl (fun K hK => ?_) (AllReadyH.nil))
              · skip
                obtain ⟨W19, hr21, hb22, hg23⟩ := op_store g12 x zeroS W11 hb15
                refine step_op_skip (hr21 _ _ _ _ rfl rfl rfl) rfl ?_
                refine hK.out _ _ ⟨kept_below hS13.1 hg23 hl18, Blk.grown hS13.2 hg23 (fun e => blk_ne hS13.2 hb15 (by decide) (Option.some.inj e))⟩ (fun hS20 => ?_)
                clear hK K
                change wpAnyH _ _ _ _ _ _ _ (Act.put _ none (undef)) _
                simp only [Act.put]
                refine wpAnyH_done (by kernel_rfl) ?_ _
                refine NoPanic.normal ?_
                go_wp2_with fail
                go_meet
                exact ⟨g12, rfl, hb22, hS20.1, hl18⟩
          · skip
            obtain ⟨g25, W24, hr27, hb28, hB29, hg30⟩ := op_alloc W1
            refine step_op_run (hr27 _ _ rfl) rfl ?_
            have hl31 : wr.heap.size ≤ g25 := Nat.le_trans hS4.1.size hg30
            refine hK.out _ _ ⟨hS4.1.trans (hB29.mono hS4.1.size), Blk.below hS4.2 hB29 hS4.2.lt⟩ (fun hS26 => ?_)
            clear hK K
            change wpAnyH _ _ _ _ _ _ _ (Act.put _ (some 12) (.pointer (some ⟨g25, 0, none⟩))) _
            simp only [Act.put, List.setIfInBounds_toArray, List.set_cons_zero, List.set_cons_succ]
            refine wpAnyH_ready (rs := [9]) (by kernel_rfl) (by simp) (AllReadyH.cons rfl (fun K hK => ?_) (AllReadyH.nil))
            · skip
              go_simp
              refine (slot_any z (v4 m) _ hz1 hz2).mono ?_
              rintro e W32 ⟨rfl, hB34⟩
              rw [← HS.out]
              have hb35 := Blk.below hb28 hB34 hb28.lt
              refine hK.out _ _ ⟨hS26.1.trans (hB34.mono hS26.1.size), Blk.below hS26.2 hB34 hS26.2.lt⟩ (fun hS33 => ?_)
              clear hK K
              simp only [List.setIfInBounds_toArray, List.set_cons_zero, List.set_cons_succ]
              refine wpAnyH_ready (rs := [11]) (by kernel_rfl) (by simp) (AllReadyH.cons rfl (fun K hK => ?_) (AllReadyH.nil))
              · skip
                obtain ⟨W36, hr38, hb39, hg40⟩ := op_store g25 x zeroS W32 hb35
                refine step_op_skip (hr38 _ _ _ _ rfl rfl rfl) rfl ?_
                refine hK.out _ _ ⟨kept_below hS33.1 hg40 hl31, Blk.grown hS33.2 hg40 (fun e => blk_ne hS33.2 hb35 (by decide) (Option.some.inj e))⟩ (fun hS37 => ?_)
                clear hK K
                change wpAnyH _ _ _ _ _ _ _ (Act.put _ none (undef)) _
                simp only [Act.put]
                refine wpAnyH_done (by kernel_rfl) ?_ _
                refine NoPanic.normal ?_
                go_wp2_with fail
                go_meet
                exact ⟨g25, rfl, hb39, hS37.1, hl31⟩
        · skip
          obtain ⟨g42, W41, hr44, hb45, hB46, hg47⟩ := op_alloc wr.drew
          refine step_op_run (hr44 _ _ rfl) rfl ?_
          have hl48 : wr.heap.size ≤ g42 := Nat.le_trans hS0.size hg47
          refine hK.out _ _ (hS0.trans (hB46.mono hS0.size)) (fun hS43 => ?_)
          clear hK K
          change wpAnyH _ _ _ _ _ _ _ (Act.put _ (some 12) (.pointer (some ⟨g42, 0, none⟩))) _
          simp only [Act.put, List.setIfInBounds_toArray, List.set_cons_zero, List.set_cons_succ]
          refine wpAnyH_ready (rs := [4]) (by kernel_rfl) (by simp) (AllReadyH.cons rfl (fun K hK => ?_) (AllReadyH.nil))
          · skip
            obtain ⟨g50, W49, hr53, hb54, hB55⟩ := op_strs4 W41 ⟨#[97]⟩ ⟨#[98]⟩ ⟨#[99]⟩ ⟨#[100]⟩
            refine step_op_run (hr53 _ _ rfl) rfl ?_
            have hb56 := Blk.below hb45 hB55 hb45.lt
            refine hK.out _ _ (hS43.trans (hB55.mono hS43.size)) (fun hS51 => ?_)
            clear hK K
            change wpAnyH _ _ _ _ _ _ _ (Act.put _ (some 36) (.slice (some ⟨g50, 0, none⟩) 4 4)) _
            simp only [Act.put, List.setIfInBounds_toArray, List.set_cons_zero, List.set_cons_succ]
            have hS52 : Below wr.heap.size wr W49 ∧ Blk W49 g50 9 #[.string ⟨#[97]⟩, .string ⟨#[98]⟩, .string ⟨#[99]⟩, .string ⟨#[100]⟩] := ⟨hS51, hb54⟩
            refine wpAnyH_more (S' := fun W => Below wr.heap.size wr W ∧ Blk W g50 9 #[.string ⟨#[97]⟩, .string ⟨#[98]⟩, .string ⟨#[99]⟩, .string ⟨#[100]⟩]) (fun _ h => h.1) ?_
            refine wpAnyH_take (i := 7) (v := .pointer (some ⟨g50, m, none⟩)) rfl (by kernel_rfl) (by kernel_rfl) (by kernel_rfl) (fun _ _ _ h => h) (Or.inl ⟨by rfl, fun w' hS' => by go_simp⟩) hS52 ?_
            change wpAnyH _ _ _ _ _ _ _ (Act.put _ (some 39) (.pointer (some ⟨g50, m, none⟩))) _
            simp only [Act.put, List.setIfInBounds_toArray, List.set_cons_zero, List.set_cons_succ]
            refine wpAnyH_take (i := 8) (v := .string (v4 m)) rfl (by kernel_rfl) (by kernel_rfl) (by kernel_rfl) (fun _ _ _ h => h) (Or.inl ⟨by rfl, fun w' hS' => by have y0 := text_at hS'.2 (v4_at m hk3); go_simp⟩) hS52 ?_
            change wpAnyH _ _ _ _ _ _ _ (Act.put _ (some 40) (.string (v4 m))) _
            simp only [Act.put, List.setIfInBounds_toArray, List.set_cons_zero, List.set_cons_succ]
            refine wpAnyH_ready (rs := [9]) (by kernel_rfl) (by simp) (AllReadyH.cons rfl (fun K hK => ?_) (AllReadyH.nil))
            · skip
              go_simp
              refine (slot_any z (v4 m) _ hz1 hz2).mono ?_
              rintro e W57 ⟨rfl, hB59⟩
              rw [← HS.out]
              have hb60 := Blk.below hb56 hB59 hb56.lt
              refine hK.out _ _ ⟨hS52.1.trans (hB59.mono hS52.1.size), Blk.below hS52.2 hB59 hS52.2.lt⟩ (fun hS58 => ?_)
              clear hK K
              simp only [List.setIfInBounds_toArray, List.set_cons_zero, List.set_cons_succ]
              refine wpAnyH_ready (rs := [11]) (by kernel_rfl) (by simp) (AllReadyH.cons rfl (fun K hK => ?_) (AllReadyH.nil))
              · skip
                obtain ⟨W61, hr63, hb64, hg65⟩ := op_store g42 x zeroS W57 hb60
                refine step_op_skip (hr63 _ _ _ _ rfl rfl rfl) rfl ?_
                refine hK.out _ _ ⟨kept_below hS58.1 hg65 hl48, Blk.grown hS58.2 hg65 (fun e => blk_ne hS58.2 hb60 (by decide) (Option.some.inj e))⟩ (fun hS62 => ?_)
                clear hK K
                change wpAnyH _ _ _ _ _ _ _ (Act.put _ none (undef)) _
                simp only [Act.put]
                refine wpAnyH_done (by kernel_rfl) ?_ _
                refine NoPanic.normal ?_
                go_wp2_with fail
                go_meet
                exact ⟨g42, rfl, hb64, hS62.1, hl48⟩
    case rest =>
      obtain ⟨g, rfl, hbg, hbw, hgg⟩ := hcut
      have HG := Lib.hid hbg
      have HGG := Lib.hid hgg
      have HX := Lib.hid (HV.out.up hbw)
      have HZ2 := Lib.hid (HBS0.out.up HX.out.below)
      clear hbg hbw hgg y0 hk3a hk3b
      obtain ⟨⟨y, M, hc⟩, hg⟩ : ∃ r, getM L (x.sum, x.len) = r := ⟨_, rfl⟩
      have HGM := Lib.hid hg
      clear hg
      by_cases g3 : k < bs.length
      case pos =>
        obtain ⟨bv, hbv⟩ : ∃ bv, bs[k]? = some bv := ⟨_, List.getElem?_eq_getElem g3⟩
        obtain ⟨ab, rfl, _, cb⟩ := bools_cell HZ2.out hbv
        clear hbv
        cases bv with
        | true =>
          obtain ⟨N, hN⟩ : ∃ N, N = (allS L x).take p.toNat := ⟨_, rfl⟩
          obtain ⟨O, hO⟩ : ∃ O, O = (allS L x).drop p.toNat := ⟨_, rfl⟩
          have q1 : Hid (putM L p x = (N, O, 0)) := Lib.hid (by rw [putM_right HX.out.right, hN, hO])
          have q2 : (N.length : Int) ≤ p := by rw [hN, List.length_take]; omega
          have q2d : decide (p < (N.length : Int)) = false := by rw [decide_eq_false_iff_not]; omega
          have q3 : L.length ≤ N.length + O.length := by have h : L.length ≤ (allS L x).length := (P13.length_all (rightB_iff.1 HX.out.right) x).1; have e := congrArg List.length (List.take_append_drop p.toNat (allS L x)); rw [List.length_append] at e; rw [hN, hO]; omega
          have q3d : decide (N.length + O.length < L.length) = false := by rw [decide_eq_false_iff_not]; omega
          have q4 : N.length + O.length ≤ 1000 := by have e := congrArg List.length (List.take_append_drop p.toNat (allS L x)); rw [List.length_append] at e; have := allS_len L x; rw [hN, hO]; omega
          have HNI : Hid (rightB N = true ∧ FitS N ∧ LastR (fun j => if j = idx x then x.val else f j) N) := Lib.hid (by rw [hN]; exact ⟨right_put HX.out.right x _, (HX.out.fit.all HFX.out).take _, HX.out.last.put HKX.out _⟩)
          clear hN hO
          have u0 := Blk.cell HG.out 0
          have u1 := Blk.cell HG.out 1
          have u2 := Blk.cell HG.out 2
          have u3 := Blk.cell HG.out 3
          have u4 := Blk.cell HG.out 4
          simp only [List.getElem?_toArray, List.getElem?_cons_zero, List.getElem?_cons_succ] at u0 u1 u2 u3 u4
          go_wp2_with fail
          refine (HNW.put A5 L L.length c5 p x _ N O 0 q1.out HX.out.at_ rfl (by omega) HX.out.fit HFX.out (by omega) (by omega)).mono ?_
          rintro e wq ⟨A6, B6, n6, m6, c6, d6, rfl, hn6, hm6, hA6, _, hB6, hf6⟩
          subst hn6 hm6
          have HA6 := Lib.hid hA6
          have HBQ := Lib.hid (below_step HX.out.below hB6)
          have HG2 := Lib.hid (Blk.below HG.out hB6 HG.out.lt)
          have HL2 := Lib.hid (Blk.below HX.out.blk hB6 HX.out.blk.lt)
          have HNE : Hid (∀ a, A6 = some a → gl ≠ a.block) := Lib.hid fun a ha => by have h1 := hf6 a ha; have h2 := HX.out.blk.lt; omega
          obtain ⟨e1, e2, e3, e4⟩ := HKX.out
          have e5 := idx_lt HKX.out
          clear hA6 hB6 hf6 u0 u1 u2 u3 u4
          go_wp2_with fail
          refine wp_region_noPanic ?_
          refine wp_region_held_drew (S := fun W => Below w.heap.size w W ∧ Blk W g 28 #[.int .u64 x.sum, .int .i64 x.len, .string x.left, .string x.right, .string x.val]) (by kernel_rfl) (⟨HBQ.out.drew, HG2.out⟩) (fun hS0 => ?_)
          change wpAnyH _ _ _ _ _ 11 #[false, false, false, false, false, false, false, false, false, false, false] _ (World.drew _)
          refine wpAnyH_take (i := 0) (v := .pointer (some ⟨g, 0, none⟩)) rfl (by kernel_rfl) (by kernel_rfl) (by kernel_rfl) (fun _ _ _ h => h) (Or.inl ⟨by rfl, fun w' hS' => by go_simp⟩) hS0 ?_
          change wpAnyH _ _ _ _ _ _ _ (Act.put _ (some 79) (.pointer (some ⟨g, 0, none⟩))) _
          simp only [Act.put, List.setIfInBounds_toArray, List.set_cons_zero, List.set_cons_succ]
          refine wpAnyH_take (i := 1) (v := .pointer (some ⟨g, 0, none⟩)) rfl (by kernel_rfl) (by kernel_rfl) (by kernel_rfl) (fun _ _ _ h => h) (Or.inl ⟨by rfl, fun w' hS' => by go_simp⟩) hS0 ?_
          change wpAnyH _ _ _ _ _ _ _ (Act.put _ (some 80) (.pointer (some ⟨g, 0, none⟩))) _
          simp only [Act.put, List.setIfInBounds_toArray, List.set_cons_zero, List.set_cons_succ]
          refine wpAnyH_take (i := 2) (v := .int .u64 x.sum) rfl (by kernel_rfl) (by kernel_rfl) (by kernel_rfl) (fun _ _ _ h => h) (Or.inl ⟨by rfl, fun w' hS' => by have hbk := hS'.2; have y0 := Blk.cell hbk 0; have y1 := Blk.cell hbk 1; have y4 := Blk.cell hbk 4; simp only [List.getElem?_toArray, List.getElem?_cons_zero, List.getElem?_cons_succ] at y0 y1 y4; go_simp⟩) hS0 ?_
          change wpAnyH _ _ _ _ _ _ _ (Act.put _ (some 81) (.int .u64 x.sum)) _
          simp only [Act.put, List.setIfInBounds_toArray, List.set_cons_zero, List.set_cons_succ]
          refine wpAnyH_take (i := 3) (v := .pointer (some ⟨g, 0, none⟩)) rfl (by kernel_rfl) (by kernel_rfl) (by kernel_rfl) (fun _ _ _ h => h) (Or.inl ⟨by rfl, fun w' hS' => by go_simp⟩) hS0 ?_
          change wpAnyH _ _ _ _ _ _ _ (Act.put _ (some 82) (.pointer (some ⟨g, 0, none⟩))) _
          simp only [Act.put, List.setIfInBounds_toArray, List.set_cons_zero, List.set_cons_succ]
          refine wpAnyH_take (i := 4) (v := .pointer (some ⟨g, 1, none⟩)) rfl (by kernel_rfl) (by kernel_rfl) (by kernel_rfl) (fun _ _ _ h => h) (Or.inl ⟨by rfl, fun w' hS' => by go_simp⟩) hS0 ?_
          change wpAnyH _ _ _ _ _ _ _ (Act.put _ (some 83) (.pointer (some ⟨g, 1, none⟩))) _
          simp only [Act.put, List.setIfInBounds_toArray, List.set_cons_zero, List.set_cons_succ]
          refine wpAnyH_take (i := 5) (v := .int .i64 x.len) rfl (by kernel_rfl) (by kernel_rfl) (by kernel_rfl) (fun _ _ _ h => h) (Or.inl ⟨by rfl, fun w' hS' => by have hbk := hS'.2; have y0 := Blk.cell hbk 0; have y1 := Blk.cell hbk 1; have y4 := Blk.cell hbk 4; simp only [List.getElem?_toArray, List.getElem?_cons_zero, List.getElem?_cons_succ] at y0 y1 y4; go_simp⟩) hS0 ?_
          change wpAnyH _ _ _ _ _ _ _ (Act.put _ (some 84) (.int .i64 x.len)) _
          simp only [Act.put, List.setIfInBounds_toArray, List.set_cons_zero, List.set_cons_succ]
          refine wpAnyH_take (i := 6) (v := .pointer (some ⟨g, 4, none⟩)) rfl (by kernel_rfl) (by kernel_rfl) (by kernel_rfl) (fun _ _ _ h => h) (Or.inl ⟨by rfl, fun w' hS' => by go_simp⟩) hS0 ?_
          change wpAnyH _ _ _ _ _ _ _ (Act.put _ (some 85) (.pointer (some ⟨g, 4, none⟩))) _
          simp only [Act.put, List.setIfInBounds_toArray, List.set_cons_zero, List.set_cons_succ]
          refine wpAnyH_take (i := 7) (v := .string x.val) rfl (by kernel_rfl) (by kernel_rfl) (by kernel_rfl) (fun _ _ _ h => h) (Or.inl ⟨by rfl, fun w' hS' => by have hbk := hS'.2; have y0 := Blk.cell hbk 0; have y1 := Blk.cell hbk 1; have y4 := Blk.cell hbk 4; simp only [List.getElem?_toArray, List.getElem?_cons_zero, List.getElem?_cons_succ] at y0 y1 y4; go_simp⟩) hS0 ?_
          change wpAnyH _ _ _ _ _ _ _ (Act.put _ (some 86) (.string x.val)) _
          simp only [Act.put, List.setIfInBounds_toArray, List.set_cons_zero, List.set_cons_succ]
          refine wpAnyH_take (i := 8) (v := .pointer (some ⟨gl, x.sum.toNat * 2, none⟩)) rfl (by kernel_rfl) (by kernel_rfl) (by kernel_rfl) (fun _ _ _ h => h) (Or.inl ⟨by rfl, fun w' hS' => by go_simp⟩) hS0 ?_
          change wpAnyH _ _ _ _ _ _ _ (Act.put _ (some 87) (.pointer (some ⟨gl, x.sum.toNat * 2, none⟩))) _
          simp only [Act.put, List.setIfInBounds_toArray, List.set_cons_zero, List.set_cons_succ]
          refine wpAnyH_take (i := 9) (v := .pointer (some ⟨gl, idx x, none⟩)) rfl (by kernel_rfl) (by kernel_rfl) (by kernel_rfl) (fun _ _ _ h => h) (Or.inl ⟨by rfl, fun w' hS' => by unfold idx; go_simp⟩) hS0 ?_
          change wpAnyH _ _ _ _ _ _ _ (Act.put _ (some 88) (.pointer (some ⟨gl, idx x, none⟩))) _
          simp only [Act.put, List.setIfInBounds_toArray, List.set_cons_zero, List.set_cons_succ]
          refine wpAnyH_ready (rs := [10]) (by kernel_rfl) (by simp) (AllReadyH.cons rfl (fun K hK => ?_) (AllReadyH.nil))
          · skip
            obtain ⟨W1, hr3, hb4, hg5⟩ := op_store_text gl (idx x) x.val f e5 wq.drew HL2.out
            refine step_op_skip (hr3 _ _ _ _ rfl rfl rfl) rfl ?_
            refine hK.out _ _ ⟨kept_below hS0.1 hg5 HGL.out, Blk.grown hS0.2 hg5 (fun e => blk_ne hS0.2 HL2.out (by decide) (Option.some.inj e))⟩ (fun hS2 => ?_)
            clear hK K
            change wpAnyH _ _ _ _ _ _ _ (Act.put _ none (undef)) _
            simp only [Act.put]
            refine wpAnyH_done (by kernel_rfl) ?_ _
            refine NoPanic.normal ?_
            go_wp2_with fail
            go_roundw
            case rel => exact ⟨k + 1, A6, N, c6, (fun j => if j = idx x then x.val else f j), by omega, by omega, by go_num, rfl, q2, Lib.hid ⟨RowAt.kept_grown HA6.out.drew hg5 (fun a ha e => HNE.out a ha (Option.some.inj e)), HNI.out.1, HNI.out.2.1, HNI.out.2.2, hb4, hS2.1, HNE.out⟩⟩
            case measure => simp [intOf]; omega
        | false =>
          have u0 := Blk.cell HG.out 0
          have u1 := Blk.cell HG.out 1
          simp only [List.getElem?_toArray, List.getElem?_cons_zero, List.getElem?_cons_succ] at u0 u1
          go_wp2_with fail
          refine (HNW.get A5 L L.length c5 x.sum x.len _ y M hc HGM.out HX.out.at_ rfl (by omega) HX.out.fit).mono ?_
          rintro e wq ⟨A6, n6, c6, rfl, hn6, hA6, hB6, hf6⟩
          clear u0 u1
          rcases getM_cases HGM.out HX.out.right with ⟨rfl, hM, hy, hyk⟩ | ⟨rfl, hM, -, -⟩
          case inr =>
            go_upto_region 16 with (fail)
            have hal : Below wq.heap.size wq (wq.alloc (.cells #[.int .u64 y.sum, .int .i64 y.len, .string y.left, .string y.right, .string y.val] 28)) := (Below.refl _ _).alloc (Nat.le_refl _) _
            have HVN := Lib.hid ((HX.out.up hB6).up hal)
            clear hal hM hn6 hA6 hB6 hf6
            go_wp2_with fail
            go_roundw
            case rel => exact ⟨k + 1, A5, L, c5, f, by omega, by omega, by go_num, rfl, hLp, HVN⟩
            case measure => simp [intOf]; omega
          case inl =>
            have q1 := P13.length_got (rightB_iff.1 HX.out.right) hy
            obtain rfl : L.length = n6 := by rw [← hn6, hM]; exact q1.symm
            have q2 : Hid (M.length = L.length) := Lib.hid hn6
            have hl0 : 0 < L.length := List.length_pos_iff.2 (fun e => by rw [e] at hy; cases hy)
            have hln : ¬ L = [] := fun e => by rw [e] at hy; cases hy
            obtain ⟨aN, rfl, _, hcN⟩ := slots_head hA6 (x := y) (by rw [hM]; rfl)
            have HMI : Hid (rightB M = true ∧ FitS M ∧ LastR f M) := Lib.hid (by rw [hM]; exact ⟨rightB_iff.2 ((rightB_iff.1 HX.out.right).got y), (HX.out.fit.without _).cons (HX.out.fit.sub (fun z hz => by rw [List.mem_singleton.1 hz]; exact hy)), HX.out.last.got hy _⟩)
            have t0 : (y.sum == x.sum) = true := by have := congrArg Prod.fst hyk; simpa [Sl.key] using this
            have t1 : (y.len == x.len) = true := by have := congrArg Prod.snd hyk; simpa [Sl.key] using this
            have q3 : Hid (f (idx x) = y.val) := Lib.hid (by rw [(HX.out.last y hy).2]; unfold idx; rw [show y.sum = x.sum by simpa using t0, show y.len = x.len by simpa using t1])
            have HNE : Hid (∀ a, some aN = some a → gl ≠ a.block) := Lib.hid fun a ha => by have h1 := hf6 a ha; have h2 := HX.out.blk.lt; omega
            go_upto_region 16 with (fail)
            have hbk := Blk.new wq 28 #[.int .u64 y.sum, .int .i64 y.len, .string y.left, .string y.right, .string y.val]
            have hal : Below wq.heap.size wq (wq.alloc (.cells #[.int .u64 y.sum, .int .i64 y.len, .string y.left, .string y.right, .string y.val] 28)) := (Below.refl _ _).alloc (Nat.le_refl _) _
            obtain ⟨wb, hwb⟩ : ∃ wb, wb = wq.alloc (.cells #[.int .u64 y.sum, .int .i64 y.len, .string y.left, .string y.right, .string y.val] 28) := ⟨_, rfl⟩
            obtain ⟨h, hh⟩ : ∃ h, h = wq.heap.size := ⟨_, rfl⟩
            rw [← hwb] at hbk hal ⊢
            rw [← hh] at hbk ⊢
            have HHD : Hid (∀ W, Below wb.heap.size wb W → W.cell? aN = some (.int .u64 y.sum) ∧ W.cell? ⟨aN.block, aN.off + 1, none⟩ = some (.int .i64 y.len) ∧ W.cell? ⟨aN.block, aN.off + 2, none⟩ = some (.string y.left) ∧ W.cell? ⟨aN.block, aN.off + 3, none⟩ = some (.string y.right) ∧ W.cell? ⟨aN.block, aN.off + 4, none⟩ = some (.string y.val)) := Lib.hid fun W hW => hcN W (below_step hal hW)
            have HX3 := Lib.hid ((HX.out.up hB6).up hal)
            have HM3 := Lib.hid (hA6.up hal)
            have HG3 := Lib.hid (Blk.below (Blk.below HG.out hB6 HG.out.lt) hal (Blk.below HG.out hB6 HG.out.lt).lt)
            have HGX : Hid (∀ W, Below wb.heap.size wb W → W.cell? ⟨g, 0, none⟩ = some (.int .u64 x.sum) ∧ W.cell? ⟨g, 1, none⟩ = some (.int .i64 x.len)) := Lib.hid fun W hW => ⟨(blk_cells HG3.out hW).1, (blk_cells HG3.out hW).2.1⟩
            have HGY := Lib.hid hbk
            have HHY : Hid (∀ W, Below wb.heap.size wb W → W.cell? ⟨h, 0, none⟩ = some (.int .u64 y.sum) ∧ W.cell? ⟨h, 1, none⟩ = some (.int .i64 y.len) ∧ W.cell? ⟨h, 2, none⟩ = some (.string y.left) ∧ W.cell? ⟨h, 3, none⟩ = some (.string y.right) ∧ W.cell? ⟨h, 4, none⟩ = some (.string y.val)) := Lib.hid fun W hW => blk_cells HGY.out hW
            obtain ⟨e1, e2, e3, e4⟩ := HKX.out
            have e5 := idx_lt HKX.out
            have HLV : Hid (∀ W, Below wb.heap.size wb W → W.cell? ⟨gl, idx x, none⟩ = some (.string y.val)) := Lib.hid fun W hW => by rw [Blk.cell (Blk.below HX3.out.blk hW HX3.out.blk.lt), lastC_at f _ e5, q3.out]
            clear hwb hh hbk hal hM hn6 hA6 hB6 hf6 hcN hy hyk q1
            go_wp2_with fail
            refine wp_region_noPanic ?_
            refine wp_region_held_drew (S := fun W => Below wb.heap.size wb W) (by kernel_rfl) ((Below.refl wb.heap.size wb).drew) (fun hS0 => ?_)
            change wpAnyH _ _ _ _ _ 38 #[false, false, false, false, false, false, false, false, false, false, false, false, false, false, false, false, false, false, false, false, false, false, false, false, false, false, false, false, false, false, false, false, false, false, false, false, false, false] _ (World.drew _)
            refine wpAnyH_take (i := 0) (v := .pointer (some ⟨h, 4, none⟩)) rfl (by kernel_rfl) (by kernel_rfl) (by kernel_rfl) (fun _ _ _ h => h) (Or.inl ⟨by rfl, fun w' hS' => by go_simp⟩) hS0 ?_
            change wpAnyH _ _ _ _ _ _ _ (Act.put _ (some 99) (.pointer (some ⟨h, 4, none⟩))) _
            simp only [Act.put, List.setIfInBounds_toArray, List.set_cons_zero, List.set_cons_succ]
            refine wpAnyH_take (i := 1) (v := .string y.val) rfl (by kernel_rfl) (by kernel_rfl) (by kernel_rfl) (fun _ _ _ h => h) (Or.inl ⟨by rfl, fun w' hS' => by obtain ⟨y0, y1, y2, y3, y4⟩ := HHY.out _ hS'; go_simp⟩) hS0 ?_
            change wpAnyH _ _ _ _ _ _ _ (Act.put _ (some 100) (.string y.val)) _
            simp only [Act.put, List.setIfInBounds_toArray, List.set_cons_zero, List.set_cons_succ]
            refine wpAnyH_take (i := 2) (v := .pointer (some ⟨g, 0, none⟩)) rfl (by kernel_rfl) (by kernel_rfl) (by kernel_rfl) (fun _ _ _ h => h) (Or.inl ⟨by rfl, fun w' hS' => by go_simp⟩) hS0 ?_
            change wpAnyH _ _ _ _ _ _ _ (Act.put _ (some 101) (.pointer (some ⟨g, 0, none⟩))) _
            simp only [Act.put, List.setIfInBounds_toArray, List.set_cons_zero, List.set_cons_succ]
            refine wpAnyH_take (i := 3) (v := .pointer (some ⟨g, 0, none⟩)) rfl (by kernel_rfl) (by kernel_rfl) (by kernel_rfl) (fun _ _ _ h => h) (Or.inl ⟨by rfl, fun w' hS' => by go_simp⟩) hS0 ?_
            change wpAnyH _ _ _ _ _ _ _ (Act.put _ (some 102) (.pointer (some ⟨g, 0, none⟩))) _
            simp only [Act.put, List.setIfInBounds_toArray, List.set_cons_zero, List.set_cons_succ]
            refine wpAnyH_take (i := 4) (v := .int .u64 x.sum) rfl (by kernel_rfl) (by kernel_rfl) (by kernel_rfl) (fun _ _ _ h => h) (Or.inl ⟨by rfl, fun w' hS' => by obtain ⟨y0, y1⟩ := HGX.out _ hS'; go_simp⟩) hS0 ?_
            change wpAnyH _ _ _ _ _ _ _ (Act.put _ (some 103) (.int .u64 x.sum)) _
            simp only [Act.put, List.setIfInBounds_toArray, List.set_cons_zero, List.set_cons_succ]
            refine wpAnyH_take (i := 5) (v := .pointer (some ⟨g, 0, none⟩)) rfl (by kernel_rfl) (by kernel_rfl) (by kernel_rfl) (fun _ _ _ h => h) (Or.inl ⟨by rfl, fun w' hS' => by go_simp⟩) hS0 ?_
            change wpAnyH _ _ _ _ _ _ _ (Act.put _ (some 104) (.pointer (some ⟨g, 0, none⟩))) _
            simp only [Act.put, List.setIfInBounds_toArray, List.set_cons_zero, List.set_cons_succ]
            refine wpAnyH_take (i := 6) (v := .pointer (some ⟨g, 1, none⟩)) rfl (by kernel_rfl) (by kernel_rfl) (by kernel_rfl) (fun _ _ _ h => h) (Or.inl ⟨by rfl, fun w' hS' => by go_simp⟩) hS0 ?_
            change wpAnyH _ _ _ _ _ _ _ (Act.put _ (some 105) (.pointer (some ⟨g, 1, none⟩))) _
            simp only [Act.put, List.setIfInBounds_toArray, List.set_cons_zero, List.set_cons_succ]
            refine wpAnyH_take (i := 7) (v := .int .i64 x.len) rfl (by kernel_rfl) (by kernel_rfl) (by kernel_rfl) (fun _ _ _ h => h) (Or.inl ⟨by rfl, fun w' hS' => by obtain ⟨y0, y1⟩ := HGX.out _ hS'; go_simp⟩) hS0 ?_
            change wpAnyH _ _ _ _ _ _ _ (Act.put _ (some 106) (.int .i64 x.len)) _
            simp only [Act.put, List.setIfInBounds_toArray, List.set_cons_zero, List.set_cons_succ]
            refine wpAnyH_take (i := 8) (v := .pointer (some ⟨gl, x.sum.toNat * 2, none⟩)) rfl (by kernel_rfl) (by kernel_rfl) (by kernel_rfl) (fun _ _ _ h => h) (Or.inl ⟨by rfl, fun w' hS' => by go_simp⟩) hS0 ?_
            change wpAnyH _ _ _ _ _ _ _ (Act.put _ (some 107) (.pointer (some ⟨gl, x.sum.toNat * 2, none⟩))) _
            simp only [Act.put, List.setIfInBounds_toArray, List.set_cons_zero, List.set_cons_succ]
            refine wpAnyH_take (i := 9) (v := .pointer (some ⟨gl, idx x, none⟩)) rfl (by kernel_rfl) (by kernel_rfl) (by kernel_rfl) (fun _ _ _ h => h) (Or.inl ⟨by rfl, fun w' hS' => by unfold idx; go_simp⟩) hS0 ?_
            change wpAnyH _ _ _ _ _ _ _ (Act.put _ (some 108) (.pointer (some ⟨gl, idx x, none⟩))) _
            simp only [Act.put, List.setIfInBounds_toArray, List.set_cons_zero, List.set_cons_succ]
            refine wpAnyH_take (i := 10) (v := .string y.val) rfl (by kernel_rfl) (by kernel_rfl) (by kernel_rfl) (fun _ _ _ h => h) (Or.inl ⟨by rfl, fun w' hS' => by have y0 := HLV.out _ hS'; go_simp⟩) hS0 ?_
            change wpAnyH _ _ _ _ _ _ _ (Act.put _ (some 109) (.string y.val)) _
            simp only [Act.put, List.setIfInBounds_toArray, List.set_cons_zero, List.set_cons_succ]
            refine wpAnyH_take (i := 11) (v := .bool false) rfl (by kernel_rfl) (by kernel_rfl) (by kernel_rfl) (fun _ _ _ h => h) (Or.inl ⟨by rfl, fun w' hS' => by go_simp⟩) hS0 ?_
            change wpAnyH _ _ _ _ _ _ _ (Act.put _ (some 110) (.bool false)) _
            simp only [Act.put, List.setIfInBounds_toArray, List.set_cons_zero, List.set_cons_succ]
            refine wpAnyH_take (i := 12) (v := .bool false) rfl (by kernel_rfl) (by kernel_rfl) (by kernel_rfl) (fun _ _ _ h => h) (Or.inl ⟨by rfl, fun w' hS' => by exact op_move rfl rfl⟩) hS0 ?_
            change wpAnyH _ _ _ _ _ _ _ (Act.put _ (some 111) (.bool false)) _
            simp only [Act.put, List.setIfInBounds_toArray, List.set_cons_zero, List.set_cons_succ]
            refine wpAnyH_take (i := 13) (v := .pointer (some ⟨h, 0, none⟩)) rfl (by kernel_rfl) (by kernel_rfl) (by kernel_rfl) (fun _ _ _ h => h) (Or.inl ⟨by rfl, fun w' hS' => by go_simp⟩) hS0 ?_
            change wpAnyH _ _ _ _ _ _ _ (Act.put _ (some 112) (.pointer (some ⟨h, 0, none⟩))) _
            simp only [Act.put, List.setIfInBounds_toArray, List.set_cons_zero, List.set_cons_succ]
            refine wpAnyH_take (i := 14) (v := .agg #[.int .u64 y.sum, .int .i64 y.len]) rfl (by kernel_rfl) (by kernel_rfl) (by kernel_rfl) (fun _ _ _ h => h) (Or.inl ⟨by rfl, fun w' hS' => by obtain ⟨y0, y1, y2, y3, y4⟩ := HHY.out _ hS'; go_simp⟩) hS0 ?_
            change wpAnyH _ _ _ _ _ _ _ (Act.put _ (some 113) (.agg #[.int .u64 y.sum, .int .i64 y.len])) _
            simp only [Act.put, List.setIfInBounds_toArray, List.set_cons_zero, List.set_cons_succ]
            refine wpAnyH_take (i := 15) (v := .pointer (some ⟨g, 0, none⟩)) rfl (by kernel_rfl) (by kernel_rfl) (by kernel_rfl) (fun _ _ _ h => h) (Or.inl ⟨by rfl, fun w' hS' => by go_simp⟩) hS0 ?_
            change wpAnyH _ _ _ _ _ _ _ (Act.put _ (some 114) (.pointer (some ⟨g, 0, none⟩))) _
            simp only [Act.put, List.setIfInBounds_toArray, List.set_cons_zero, List.set_cons_succ]
            refine wpAnyH_take (i := 16) (v := .agg #[.int .u64 x.sum, .int .i64 x.len]) rfl (by kernel_rfl) (by kernel_rfl) (by kernel_rfl) (fun _ _ _ h => h) (Or.inl ⟨by rfl, fun w' hS' => by obtain ⟨y0, y1⟩ := HGX.out _ hS'; go_simp⟩) hS0 ?_
            change wpAnyH _ _ _ _ _ _ _ (Act.put _ (some 115) (.agg #[.int .u64 x.sum, .int .i64 x.len])) _
            simp only [Act.put, List.setIfInBounds_toArray, List.set_cons_zero, List.set_cons_succ]
            refine wpAnyH_take (i := 17) (v := .bool false) rfl (by kernel_rfl) (by kernel_rfl) (by kernel_rfl) (fun _ _ _ h => h) (Or.inl ⟨by rfl, fun w' hS' => by go_simp⟩) hS0 ?_
            change wpAnyH _ _ _ _ _ _ _ (Act.put _ (some 116) (.bool false)) _
            simp only [Act.put, List.setIfInBounds_toArray, List.set_cons_zero, List.set_cons_succ]
            refine wpAnyH_take (i := 18) (v := .bool false) rfl (by kernel_rfl) (by kernel_rfl) (by kernel_rfl) (fun _ _ _ h => h) (Or.inl ⟨by rfl, fun w' hS' => by go_simp⟩) hS0 ?_
            change wpAnyH _ _ _ _ _ _ _ (Act.put _ (some 117) (.bool false)) _
            simp only [Act.put, List.setIfInBounds_toArray, List.set_cons_zero, List.set_cons_succ]
            refine wpAnyH_take (i := 19) (v := .bool false) rfl (by kernel_rfl) (by kernel_rfl) (by kernel_rfl) (fun _ _ _ h => h) (Or.inl ⟨by rfl, fun w' hS' => by exact op_move rfl rfl⟩) hS0 ?_
            change wpAnyH _ _ _ _ _ _ _ (Act.put _ (some 118) (.bool false)) _
            simp only [Act.put, List.setIfInBounds_toArray, List.set_cons_zero, List.set_cons_succ]
            refine wpAnyH_take (i := 20) (v := .slice (some aN) L.length c6) rfl (by kernel_rfl) (by kernel_rfl) (by kernel_rfl) (fun _ _ _ h => h) (Or.inl ⟨by rfl, fun w' hS' => by exact op_move rfl rfl⟩) hS0 ?_
            change wpAnyH _ _ _ _ _ _ _ (Act.put _ (some 119) (.slice (some aN) L.length c6)) _
            simp only [Act.put, List.setIfInBounds_toArray, List.set_cons_zero, List.set_cons_succ]
            refine wpAnyH_take (i := 21) (v := .int .i64 ((L.length : Nat) : Int)) rfl (by kernel_rfl) (by kernel_rfl) (by kernel_rfl) (fun _ _ _ h => h) (Or.inl ⟨by rfl, fun w' hS' => by go_simp⟩) hS0 ?_
            change wpAnyH _ _ _ _ _ _ _ (Act.put _ (some 120) (.int .i64 ((L.length : Nat) : Int))) _
            simp only [Act.put, List.setIfInBounds_toArray, List.set_cons_zero, List.set_cons_succ]
            refine wpAnyH_take (i := 22) (v := .bool false) rfl (by kernel_rfl) (by kernel_rfl) (by kernel_rfl) (fun _ _ _ h => h) (Or.inl ⟨by rfl, fun w' hS' => by go_simp⟩) hS0 ?_
            change wpAnyH _ _ _ _ _ _ _ (Act.put _ (some 121) (.bool false)) _
            simp only [Act.put, List.setIfInBounds_toArray, List.set_cons_zero, List.set_cons_succ]
            refine wpAnyH_take (i := 23) (v := .bool false) rfl (by kernel_rfl) (by kernel_rfl) (by kernel_rfl) (fun _ _ _ h => h) (Or.inl ⟨by rfl, fun w' hS' => by go_simp⟩) hS0 ?_
            change wpAnyH _ _ _ _ _ _ _ (Act.put _ (some 122) (.bool false)) _
            simp only [Act.put, List.setIfInBounds_toArray, List.set_cons_zero, List.set_cons_succ]
            refine wpAnyH_take (i := 24) (v := .bool false) rfl (by kernel_rfl) (by kernel_rfl) (by kernel_rfl) (fun _ _ _ h => h) (Or.inl ⟨by rfl, fun w' hS' => by exact op_move rfl rfl⟩) hS0 ?_
            change wpAnyH _ _ _ _ _ _ _ (Act.put _ (some 123) (.bool false)) _
            simp only [Act.put, List.setIfInBounds_toArray, List.set_cons_zero, List.set_cons_succ]
            refine wpAnyH_take (i := 25) (v := .slice (some aN) L.length c6) rfl (by kernel_rfl) (by kernel_rfl) (by kernel_rfl) (fun _ _ _ h => h) (Or.inl ⟨by rfl, fun w' hS' => by exact op_move rfl rfl⟩) hS0 ?_
            change wpAnyH _ _ _ _ _ _ _ (Act.put _ (some 124) (.slice (some aN) L.length c6)) _
            simp only [Act.put, List.setIfInBounds_toArray, List.set_cons_zero, List.set_cons_succ]
            refine wpAnyH_take (i := 26) (v := .int .i64 ((L.length : Nat) : Int)) rfl (by kernel_rfl) (by kernel_rfl) (by kernel_rfl) (fun _ _ _ h => h) (Or.inl ⟨by rfl, fun w' hS' => by go_simp⟩) hS0 ?_
            change wpAnyH _ _ _ _ _ _ _ (Act.put _ (some 125) (.int .i64 ((L.length : Nat) : Int))) _
            simp only [Act.put, List.setIfInBounds_toArray, List.set_cons_zero, List.set_cons_succ]
            refine wpAnyH_take (i := 27) (v := .slice A5 L.length c5) rfl (by kernel_rfl) (by kernel_rfl) (by kernel_rfl) (fun _ _ _ h => h) (Or.inl ⟨by rfl, fun w' hS' => by exact op_move rfl rfl⟩) hS0 ?_
            change wpAnyH _ _ _ _ _ _ _ (Act.put _ (some 126) (.slice A5 L.length c5)) _
            simp only [Act.put, List.setIfInBounds_toArray, List.set_cons_zero, List.set_cons_succ]
            refine wpAnyH_take (i := 28) (v := .int .i64 ((L.length : Nat) : Int)) rfl (by kernel_rfl) (by kernel_rfl) (by kernel_rfl) (fun _ _ _ h => h) (Or.inl ⟨by rfl, fun w' hS' => by go_simp⟩) hS0 ?_
            change wpAnyH _ _ _ _ _ _ _ (Act.put _ (some 127) (.int .i64 ((L.length : Nat) : Int))) _
            simp only [Act.put, List.setIfInBounds_toArray, List.set_cons_zero, List.set_cons_succ]
            refine wpAnyH_take (i := 29) (v := .bool false) rfl (by kernel_rfl) (by kernel_rfl) (by kernel_rfl) (fun _ _ _ h => h) (Or.inl ⟨by rfl, fun w' hS' => by go_simp⟩) hS0 ?_
            change wpAnyH _ _ _ _ _ _ _ (Act.put _ (some 128) (.bool false)) _
            simp only [Act.put, List.setIfInBounds_toArray, List.set_cons_zero, List.set_cons_succ]
            refine wpAnyH_take (i := 30) (v := .bool false) rfl (by kernel_rfl) (by kernel_rfl) (by kernel_rfl) (fun _ _ _ h => h) (Or.inl ⟨by rfl, fun w' hS' => by go_simp⟩) hS0 ?_
            change wpAnyH _ _ _ _ _ _ _ (Act.put _ (some 129) (.bool false)) _
            simp only [Act.put, List.setIfInBounds_toArray, List.set_cons_zero, List.set_cons_succ]
            refine wpAnyH_take (i := 31) (v := .bool false) rfl (by kernel_rfl) (by kernel_rfl) (by kernel_rfl) (fun _ _ _ h => h) (Or.inl ⟨by rfl, fun w' hS' => by exact op_move rfl rfl⟩) hS0 ?_
            change wpAnyH _ _ _ _ _ _ _ (Act.put _ (some 130) (.bool false)) _
            simp only [Act.put, List.setIfInBounds_toArray, List.set_cons_zero, List.set_cons_succ]
            refine wpAnyH_take (i := 32) (v := .slice (some aN) L.length c6) rfl (by kernel_rfl) (by kernel_rfl) (by kernel_rfl) (fun _ _ _ h => h) (Or.inl ⟨by rfl, fun w' hS' => by exact op_move rfl rfl⟩) hS0 ?_
            change wpAnyH _ _ _ _ _ _ _ (Act.put _ (some 131) (.slice (some aN) L.length c6)) _
            simp only [Act.put, List.setIfInBounds_toArray, List.set_cons_zero, List.set_cons_succ]
            refine wpAnyH_take (i := 33) (v := .pointer (some aN)) rfl (by kernel_rfl) (by kernel_rfl) (by kernel_rfl) (fun _ _ _ h => h) (Or.inl ⟨by rfl, fun w' hS' => by go_simp⟩) hS0 ?_
            change wpAnyH _ _ _ _ _ _ _ (Act.put _ (some 132) (.pointer (some aN))) _
            simp only [Act.put, List.setIfInBounds_toArray, List.set_cons_zero, List.set_cons_succ]
            refine wpAnyH_take (i := 34) (v := .agg #[.int .u64 y.sum, .int .i64 y.len, .string y.left, .string y.right, .string y.val]) rfl (by kernel_rfl) (by kernel_rfl) (by kernel_rfl) (fun _ _ _ h => h) (Or.inl ⟨by rfl, fun w' hS' => by obtain ⟨y0, y1, y2, y3, y4⟩ := HHD.out _ hS'; go_simp⟩) hS0 ?_
            change wpAnyH _ _ _ _ _ _ _ (Act.put _ (some 133) (.agg #[.int .u64 y.sum, .int .i64 y.len, .string y.left, .string y.right, .string y.val])) _
            simp only [Act.put, List.setIfInBounds_toArray, List.set_cons_zero, List.set_cons_succ]
            refine wpAnyH_take (i := 35) (v := .agg #[.int .u64 y.sum, .int .i64 y.len, .string y.left, .string y.right, .string y.val]) rfl (by kernel_rfl) (by kernel_rfl) (by kernel_rfl) (fun _ _ _ h => h) (Or.inl ⟨by rfl, fun w' hS' => by obtain ⟨y0, y1, y2, y3, y4⟩ := HHY.out _ hS'; go_simp⟩) hS0 ?_
            change wpAnyH _ _ _ _ _ _ _ (Act.put _ (some 134) (.agg #[.int .u64 y.sum, .int .i64 y.len, .string y.left, .string y.right, .string y.val])) _
            simp only [Act.put, List.setIfInBounds_toArray, List.set_cons_zero, List.set_cons_succ]
            refine wpAnyH_take (i := 36) (v := .bool false) rfl (by kernel_rfl) (by kernel_rfl) (by kernel_rfl) (fun _ _ _ h => h) (Or.inl ⟨by rfl, fun w' hS' => by go_simp⟩) hS0 ?_
            change wpAnyH _ _ _ _ _ _ _ (Act.put _ (some 135) (.bool false)) _
            simp only [Act.put, List.setIfInBounds_toArray, List.set_cons_zero, List.set_cons_succ]
            refine wpAnyH_take (i := 37) (v := .bool false) rfl (by kernel_rfl) (by kernel_rfl) (by kernel_rfl) (fun _ _ _ h => h) (Or.inl ⟨by rfl, fun w' hS' => by go_simp⟩) hS0 ?_
            change wpAnyH _ _ _ _ _ _ _ (Act.put _ (some 136) (.bool false)) _
            simp only [Act.put, List.setIfInBounds_toArray, List.set_cons_zero, List.set_cons_succ]
            refine wpAnyH_done (by kernel_rfl) ?_ _
            refine NoPanic.normal ?_
            go_wp2_with fail
            go_roundw
            case rel => exact ⟨k + 1, some aN, M, c6, f, by omega, by omega, by go_num, by rw [q2.out], by rw [q2.out]; exact hLp, Lib.hid ⟨HM3.out.drew, HMI.out.1, HMI.out.2.1, HMI.out.2.2, HX3.out.blk, HX3.out.below.drew, HNE.out⟩⟩
            case measure => simp [intOf]; omega
      case neg =>
        have u0 := Blk.cell HG.out 0
        have u1 := Blk.cell HG.out 1
        simp only [List.getElem?_toArray, List.getElem?_cons_zero, List.getElem?_cons_succ] at u0 u1
        go_wp2_with fail
        refine (HNW.get A5 L L.length c5 x.sum x.len _ y M hc HGM.out HX.out.at_ rfl (by omega) HX.out.fit).mono ?_
        rintro e wq ⟨A6, n6, c6, rfl, hn6, hA6, hB6, hf6⟩
        clear u0 u1
        rcases getM_cases HGM.out HX.out.right with ⟨rfl, hM, hy, hyk⟩ | ⟨rfl, hM, -, -⟩
        case inr =>
          go_upto_region 16 with (fail)
          have hal : Below wq.heap.size wq (wq.alloc (.cells #[.int .u64 y.sum, .int .i64 y.len, .string y.left, .string y.right, .string y.val] 28)) := (Below.refl _ _).alloc (Nat.le_refl _) _
          have HVN := Lib.hid ((HX.out.up hB6).up hal)
          clear hal hM hn6 hA6 hB6 hf6
          go_wp2_with fail
          go_roundw
          case rel => exact ⟨k + 1, A5, L, c5, f, by omega, by omega, by go_num, rfl, hLp, HVN⟩
          case measure => simp [intOf]; omega
        case inl =>
          have q1 := P13.length_got (rightB_iff.1 HX.out.right) hy
          obtain rfl : L.length = n6 := by rw [← hn6, hM]; exact q1.symm
          have q2 : Hid (M.length = L.length) := Lib.hid hn6
          have hl0 : 0 < L.length := List.length_pos_iff.2 (fun e => by rw [e] at hy; cases hy)
          have hln : ¬ L = [] := fun e => by rw [e] at hy; cases hy
          obtain ⟨aN, rfl, _, hcN⟩ := slots_head hA6 (x := y) (by rw [hM]; rfl)
          have HMI : Hid (rightB M = true ∧ FitS M ∧ LastR f M) := Lib.hid (by rw [hM]; exact ⟨rightB_iff.2 ((rightB_iff.1 HX.out.right).got y), (HX.out.fit.without _).cons (HX.out.fit.sub (fun z hz => by rw [List.mem_singleton.1 hz]; exact hy)), HX.out.last.got hy _⟩)
          have t0 : (y.sum == x.sum) = true := by have := congrArg Prod.fst hyk; simpa [Sl.key] using this
          have t1 : (y.len == x.len) = true := by have := congrArg Prod.snd hyk; simpa [Sl.key] using this
          have q3 : Hid (f (idx x) = y.val) := Lib.hid (by rw [(HX.out.last y hy).2]; unfold idx; rw [show y.sum = x.sum by simpa using t0, show y.len = x.len by simpa using t1])
          have HNE : Hid (∀ a, some aN = some a → gl ≠ a.block) := Lib.hid fun a ha => by have h1 := hf6 a ha; have h2 := HX.out.blk.lt; omega
          go_upto_region 16 with (fail)
          have hbk := Blk.new wq 28 #[.int .u64 y.sum, .int .i64 y.len, .string y.left, .string y.right, .string y.val]
          have hal : Below wq.heap.size wq (wq.alloc (.cells #[.int .u64 y.sum, .int .i64 y.len, .string y.left, .string y.right, .string y.val] 28)) := (Below.refl _ _).alloc (Nat.le_refl _) _
          obtain ⟨wb, hwb⟩ : ∃ wb, wb = wq.alloc (.cells #[.int .u64 y.sum, .int .i64 y.len, .string y.left, .string y.right, .string y.val] 28) := ⟨_, rfl⟩
          obtain ⟨h, hh⟩ : ∃ h, h = wq.heap.size := ⟨_, rfl⟩
          rw [← hwb] at hbk hal ⊢
          rw [← hh] at hbk ⊢
          have HHD : Hid (∀ W, Below wb.heap.size wb W → W.cell? aN = some (.int .u64 y.sum) ∧ W.cell? ⟨aN.block, aN.off + 1, none⟩ = some (.int .i64 y.len) ∧ W.cell? ⟨aN.block, aN.off + 2, none⟩ = some (.string y.left) ∧ W.cell? ⟨aN.block, aN.off + 3, none⟩ = some (.string y.right) ∧ W.cell? ⟨aN.block, aN.off + 4, none⟩ = some (.string y.val)) := Lib.hid fun W hW => hcN W (below_step hal hW)
          have HX3 := Lib.hid ((HX.out.up hB6).up hal)
          have HM3 := Lib.hid (hA6.up hal)
          have HG3 := Lib.hid (Blk.below (Blk.below HG.out hB6 HG.out.lt) hal (Blk.below HG.out hB6 HG.out.lt).lt)
          have HGX : Hid (∀ W, Below wb.heap.size wb W → W.cell? ⟨g, 0, none⟩ = some (.int .u64 x.sum) ∧ W.cell? ⟨g, 1, none⟩ = some (.int .i64 x.len)) := Lib.hid fun W hW => ⟨(blk_cells HG3.out hW).1, (blk_cells HG3.out hW).2.1⟩
          have HGY := Lib.hid hbk
          have HHY : Hid (∀ W, Below wb.heap.size wb W → W.cell? ⟨h, 0, none⟩ = some (.int .u64 y.sum) ∧ W.cell? ⟨h, 1, none⟩ = some (.int .i64 y.len) ∧ W.cell? ⟨h, 2, none⟩ = some (.string y.left) ∧ W.cell? ⟨h, 3, none⟩ = some (.string y.right) ∧ W.cell? ⟨h, 4, none⟩ = some (.string y.val)) := Lib.hid fun W hW => blk_cells HGY.out hW
          obtain ⟨e1, e2, e3, e4⟩ := HKX.out
          have e5 := idx_lt HKX.out
          have HLV : Hid (∀ W, Below wb.heap.size wb W → W.cell? ⟨gl, idx x, none⟩ = some (.string y.val)) := Lib.hid fun W hW => by rw [Blk.cell (Blk.below HX3.out.blk hW HX3.out.blk.lt), lastC_at f _ e5, q3.out]
          clear hwb hh hbk hal hM hn6 hA6 hB6 hf6 hcN hy hyk q1
          go_wp2_with fail
          refine wp_region_noPanic ?_
          refine wp_region_held_drew (S := fun W => Below wb.heap.size wb W) (by kernel_rfl) ((Below.refl wb.heap.size wb).drew) (fun hS0 => ?_)
          change wpAnyH _ _ _ _ _ 38 #[false, false, false, false, false, false, false, false, false, false, false, false, false, false, false, false, false, false, false, false, false, false, false, false, false, false, false, false, false, false, false, false, false, false, false, false, false, false] _ (World.drew _)
          refine wpAnyH_take (i := 0) (v := .pointer (some ⟨h, 4, none⟩)) rfl (by kernel_rfl) (by kernel_rfl) (by kernel_rfl) (fun _ _ _ h => h) (Or.inl ⟨by rfl, fun w' hS' => by go_simp⟩) hS0 ?_
          change wpAnyH _ _ _ _ _ _ _ (Act.put _ (some 99) (.pointer (some ⟨h, 4, none⟩))) _
          simp only [Act.put, List.setIfInBounds_toArray, List.set_cons_zero, List.set_cons_succ]
          refine wpAnyH_take (i := 1) (v := .string y.val) rfl (by kernel_rfl) (by kernel_rfl) (by kernel_rfl) (fun _ _ _ h => h) (Or.inl ⟨by rfl, fun w' hS' => by obtain ⟨y0, y1, y2, y3, y4⟩ := HHY.out _ hS'; go_simp⟩) hS0 ?_
          change wpAnyH _ _ _ _ _ _ _ (Act.put _ (some 100) (.string y.val)) _
          simp only [Act.put, List.setIfInBounds_toArray, List.set_cons_zero, List.set_cons_succ]
          refine wpAnyH_take (i := 2) (v := .pointer (some ⟨g, 0, none⟩)) rfl (by kernel_rfl) (by kernel_rfl) (by kernel_rfl) (fun _ _ _ h => h) (Or.inl ⟨by rfl, fun w' hS' => by go_simp⟩) hS0 ?_
          change wpAnyH _ _ _ _ _ _ _ (Act.put _ (some 101) (.pointer (some ⟨g, 0, none⟩))) _
          simp only [Act.put, List.setIfInBounds_toArray, List.set_cons_zero, List.set_cons_succ]
          refine wpAnyH_take (i := 3) (v := .pointer (some ⟨g, 0, none⟩)) rfl (by kernel_rfl) (by kernel_rfl) (by kernel_rfl) (fun _ _ _ h => h) (Or.inl ⟨by rfl, fun w' hS' => by go_simp⟩) hS0 ?_
          change wpAnyH _ _ _ _ _ _ _ (Act.put _ (some 102) (.pointer (some ⟨g, 0, none⟩))) _
          simp only [Act.put, List.setIfInBounds_toArray, List.set_cons_zero, List.set_cons_succ]
          refine wpAnyH_take (i := 4) (v := .int .u64 x.sum) rfl (by kernel_rfl) (by kernel_rfl) (by kernel_rfl) (fun _ _ _ h => h) (Or.inl ⟨by rfl, fun w' hS' => by obtain ⟨y0, y1⟩ := HGX.out _ hS'; go_simp⟩) hS0 ?_
          change wpAnyH _ _ _ _ _ _ _ (Act.put _ (some 103) (.int .u64 x.sum)) _
          simp only [Act.put, List.setIfInBounds_toArray, List.set_cons_zero, List.set_cons_succ]
          refine wpAnyH_take (i := 5) (v := .pointer (some ⟨g, 0, none⟩)) rfl (by kernel_rfl) (by kernel_rfl) (by kernel_rfl) (fun _ _ _ h => h) (Or.inl ⟨by rfl, fun w' hS' => by go_simp⟩) hS0 ?_
          change wpAnyH _ _ _ _ _ _ _ (Act.put _ (some 104) (.pointer (some ⟨g, 0, none⟩))) _
          simp only [Act.put, List.setIfInBounds_toArray, List.set_cons_zero, List.set_cons_succ]
          refine wpAnyH_take (i := 6) (v := .pointer (some ⟨g, 1, none⟩)) rfl (by kernel_rfl) (by kernel_rfl) (by kernel_rfl) (fun _ _ _ h => h) (Or.inl ⟨by rfl, fun w' hS' => by go_simp⟩) hS0 ?_
          change wpAnyH _ _ _ _ _ _ _ (Act.put _ (some 105) (.pointer (some ⟨g, 1, none⟩))) _
          simp only [Act.put, List.setIfInBounds_toArray, List.set_cons_zero, List.set_cons_succ]
          refine wpAnyH_take (i := 7) (v := .int .i64 x.len) rfl (by kernel_rfl) (by kernel_rfl) (by kernel_rfl) (fun _ _ _ h => h) (Or.inl ⟨by rfl, fun w' hS' => by obtain ⟨y0, y1⟩ := HGX.out _ hS'; go_simp⟩) hS0 ?_
          change wpAnyH _ _ _ _ _ _ _ (Act.put _ (some 106) (.int .i64 x.len)) _
          simp only [Act.put, List.setIfInBounds_toArray, List.set_cons_zero, List.set_cons_succ]
          refine wpAnyH_take (i := 8) (v := .pointer (some ⟨gl, x.sum.toNat * 2, none⟩)) rfl (by kernel_rfl) (by kernel_rfl) (by kernel_rfl) (fun _ _ _ h => h) (Or.inl ⟨by rfl, fun w' hS' => by go_simp⟩) hS0 ?_
          change wpAnyH _ _ _ _ _ _ _ (Act.put _ (some 107) (.pointer (some ⟨gl, x.sum.toNat * 2, none⟩))) _
          simp only [Act.put, List.setIfInBounds_toArray, List.set_cons_zero, List.set_cons_succ]
          refine wpAnyH_take (i := 9) (v := .pointer (some ⟨gl, idx x, none⟩)) rfl (by kernel_rfl) (by kernel_rfl) (by kernel_rfl) (fun _ _ _ h => h) (Or.inl ⟨by rfl, fun w' hS' => by unfold idx; go_simp⟩) hS0 ?_
          change wpAnyH _ _ _ _ _ _ _ (Act.put _ (some 108) (.pointer (some ⟨gl, idx x, none⟩))) _
          simp only [Act.put, List.setIfInBounds_toArray, List.set_cons_zero, List.set_cons_succ]
          refine wpAnyH_take (i := 10) (v := .string y.val) rfl (by kernel_rfl) (by kernel_rfl) (by kernel_rfl) (fun _ _ _ h => h) (Or.inl ⟨by rfl, fun w' hS' => by have y0 := HLV.out _ hS'; go_simp⟩) hS0 ?_
          change wpAnyH _ _ _ _ _ _ _ (Act.put _ (some 109) (.string y.val)) _
          simp only [Act.put, List.setIfInBounds_toArray, List.set_cons_zero, List.set_cons_succ]
          refine wpAnyH_take (i := 11) (v := .bool false) rfl (by kernel_rfl) (by kernel_rfl) (by kernel_rfl) (fun _ _ _ h => h) (Or.inl ⟨by rfl, fun w' hS' => by go_simp⟩) hS0 ?_
          change wpAnyH _ _ _ _ _ _ _ (Act.put _ (some 110) (.bool false)) _
          simp only [Act.put, List.setIfInBounds_toArray, List.set_cons_zero, List.set_cons_succ]
          refine wpAnyH_take (i := 12) (v := .bool false) rfl (by kernel_rfl) (by kernel_rfl) (by kernel_rfl) (fun _ _ _ h => h) (Or.inl ⟨by rfl, fun w' hS' => by exact op_move rfl rfl⟩) hS0 ?_
          change wpAnyH _ _ _ _ _ _ _ (Act.put _ (some 111) (.bool false)) _
          simp only [Act.put, List.setIfInBounds_toArray, List.set_cons_zero, List.set_cons_succ]
          refine wpAnyH_take (i := 13) (v := .pointer (some ⟨h, 0, none⟩)) rfl (by kernel_rfl) (by kernel_rfl) (by kernel_rfl) (fun _ _ _ h => h) (Or.inl ⟨by rfl, fun w' hS' => by go_simp⟩) hS0 ?_
          change wpAnyH _ _ _ _ _ _ _ (Act.put _ (some 112) (.pointer (some ⟨h, 0, none⟩))) _
          simp only [Act.put, List.setIfInBounds_toArray, List.set_cons_zero, List.set_cons_succ]
          refine wpAnyH_take (i := 14) (v := .agg #[.int .u64 y.sum, .int .i64 y.len]) rfl (by kernel_rfl) (by kernel_rfl) (by kernel_rfl) (fun _ _ _ h => h) (Or.inl ⟨by rfl, fun w' hS' => by obtain ⟨y0, y1, y2, y3, y4⟩ := HHY.out _ hS'; go_simp⟩) hS0 ?_
          change wpAnyH _ _ _ _ _ _ _ (Act.put _ (some 113) (.agg #[.int .u64 y.sum, .int .i64 y.len])) _
          simp only [Act.put, List.setIfInBounds_toArray, List.set_cons_zero, List.set_cons_succ]
          refine wpAnyH_take (i := 15) (v := .pointer (some ⟨g, 0, none⟩)) rfl (by kernel_rfl) (by kernel_rfl) (by kernel_rfl) (fun _ _ _ h => h) (Or.inl ⟨by rfl, fun w' hS' => by go_simp⟩) hS0 ?_
          change wpAnyH _ _ _ _ _ _ _ (Act.put _ (some 114) (.pointer (some ⟨g, 0, none⟩))) _
          simp only [Act.put, List.setIfInBounds_toArray, List.set_cons_zero, List.set_cons_succ]
          refine wpAnyH_take (i := 16) (v := .agg #[.int .u64 x.sum, .int .i64 x.len]) rfl (by kernel_rfl) (by kernel_rfl) (by kernel_rfl) (fun _ _ _ h => h) (Or.inl ⟨by rfl, fun w' hS' => by obtain ⟨y0, y1⟩ := HGX.out _ hS'; go_simp⟩) hS0 ?_
          change wpAnyH _ _ _ _ _ _ _ (Act.put _ (some 115) (.agg #[.int .u64 x.sum, .int .i64 x.len])) _
          simp only [Act.put, List.setIfInBounds_toArray, List.set_cons_zero, List.set_cons_succ]
          refine wpAnyH_take (i := 17) (v := .bool false) rfl (by kernel_rfl) (by kernel_rfl) (by kernel_rfl) (fun _ _ _ h => h) (Or.inl ⟨by rfl, fun w' hS' => by go_simp⟩) hS0 ?_
          change wpAnyH _ _ _ _ _ _ _ (Act.put _ (some 116) (.bool false)) _
          simp only [Act.put, List.setIfInBounds_toArray, List.set_cons_zero, List.set_cons_succ]
          refine wpAnyH_take (i := 18) (v := .bool false) rfl (by kernel_rfl) (by kernel_rfl) (by kernel_rfl) (fun _ _ _ h => h) (Or.inl ⟨by rfl, fun w' hS' => by go_simp⟩) hS0 ?_
          change wpAnyH _ _ _ _ _ _ _ (Act.put _ (some 117) (.bool false)) _
          simp only [Act.put, List.setIfInBounds_toArray, List.set_cons_zero, List.set_cons_succ]
          refine wpAnyH_take (i := 19) (v := .bool false) rfl (by kernel_rfl) (by kernel_rfl) (by kernel_rfl) (fun _ _ _ h => h) (Or.inl ⟨by rfl, fun w' hS' => by exact op_move rfl rfl⟩) hS0 ?_
          change wpAnyH _ _ _ _ _ _ _ (Act.put _ (some 118) (.bool false)) _
          simp only [Act.put, List.setIfInBounds_toArray, List.set_cons_zero, List.set_cons_succ]
          refine wpAnyH_take (i := 20) (v := .slice (some aN) L.length c6) rfl (by kernel_rfl) (by kernel_rfl) (by kernel_rfl) (fun _ _ _ h => h) (Or.inl ⟨by rfl, fun w' hS' => by exact op_move rfl rfl⟩) hS0 ?_
          change wpAnyH _ _ _ _ _ _ _ (Act.put _ (some 119) (.slice (some aN) L.length c6)) _
          simp only [Act.put, List.setIfInBounds_toArray, List.set_cons_zero, List.set_cons_succ]
          refine wpAnyH_take (i := 21) (v := .int .i64 ((L.length : Nat) : Int)) rfl (by kernel_rfl) (by kernel_rfl) (by kernel_rfl) (fun _ _ _ h => h) (Or.inl ⟨by rfl, fun w' hS' => by go_simp⟩) hS0 ?_
          change wpAnyH _ _ _ _ _ _ _ (Act.put _ (some 120) (.int .i64 ((L.length : Nat) : Int))) _
          simp only [Act.put, List.setIfInBounds_toArray, List.set_cons_zero, List.set_cons_succ]
          refine wpAnyH_take (i := 22) (v := .bool false) rfl (by kernel_rfl) (by kernel_rfl) (by kernel_rfl) (fun _ _ _ h => h) (Or.inl ⟨by rfl, fun w' hS' => by go_simp⟩) hS0 ?_
          change wpAnyH _ _ _ _ _ _ _ (Act.put _ (some 121) (.bool false)) _
          simp only [Act.put, List.setIfInBounds_toArray, List.set_cons_zero, List.set_cons_succ]
          refine wpAnyH_take (i := 23) (v := .bool false) rfl (by kernel_rfl) (by kernel_rfl) (by kernel_rfl) (fun _ _ _ h => h) (Or.inl ⟨by rfl, fun w' hS' => by go_simp⟩) hS0 ?_
          change wpAnyH _ _ _ _ _ _ _ (Act.put _ (some 122) (.bool false)) _
          simp only [Act.put, List.setIfInBounds_toArray, List.set_cons_zero, List.set_cons_succ]
          refine wpAnyH_take (i := 24) (v := .bool false) rfl (by kernel_rfl) (by kernel_rfl) (by kernel_rfl) (fun _ _ _ h => h) (Or.inl ⟨by rfl, fun w' hS' => by exact op_move rfl rfl⟩) hS0 ?_
          change wpAnyH _ _ _ _ _ _ _ (Act.put _ (some 123) (.bool false)) _
          simp only [Act.put, List.setIfInBounds_toArray, List.set_cons_zero, List.set_cons_succ]
          refine wpAnyH_take (i := 25) (v := .slice (some aN) L.length c6) rfl (by kernel_rfl) (by kernel_rfl) (by kernel_rfl) (fun _ _ _ h => h) (Or.inl ⟨by rfl, fun w' hS' => by exact op_move rfl rfl⟩) hS0 ?_
          change wpAnyH _ _ _ _ _ _ _ (Act.put _ (some 124) (.slice (some aN) L.length c6)) _
          simp only [Act.put, List.setIfInBounds_toArray, List.set_cons_zero, List.set_cons_succ]
          refine wpAnyH_take (i := 26) (v := .int .i64 ((L.length : Nat) : Int)) rfl (by kernel_rfl) (by kernel_rfl) (by kernel_rfl) (fun _ _ _ h => h) (Or.inl ⟨by rfl, fun w' hS' => by go_simp⟩) hS0 ?_
          change wpAnyH _ _ _ _ _ _ _ (Act.put _ (some 125) (.int .i64 ((L.length : Nat) : Int))) _
          simp only [Act.put, List.setIfInBounds_toArray, List.set_cons_zero, List.set_cons_succ]
          refine wpAnyH_take (i := 27) (v := .slice A5 L.length c5) rfl (by kernel_rfl) (by kernel_rfl) (by kernel_rfl) (fun _ _ _ h => h) (Or.inl ⟨by rfl, fun w' hS' => by exact op_move rfl rfl⟩) hS0 ?_
          change wpAnyH _ _ _ _ _ _ _ (Act.put _ (some 126) (.slice A5 L.length c5)) _
          simp only [Act.put, List.setIfInBounds_toArray, List.set_cons_zero, List.set_cons_succ]
          refine wpAnyH_take (i := 28) (v := .int .i64 ((L.length : Nat) : Int)) rfl (by kernel_rfl) (by kernel_rfl) (by kernel_rfl) (fun _ _ _ h => h) (Or.inl ⟨by rfl, fun w' hS' => by go_simp⟩) hS0 ?_
          change wpAnyH _ _ _ _ _ _ _ (Act.put _ (some 127) (.int .i64 ((L.length : Nat) : Int))) _
          simp only [Act.put, List.setIfInBounds_toArray, List.set_cons_zero, List.set_cons_succ]
          refine wpAnyH_take (i := 29) (v := .bool false) rfl (by kernel_rfl) (by kernel_rfl) (by kernel_rfl) (fun _ _ _ h => h) (Or.inl ⟨by rfl, fun w' hS' => by go_simp⟩) hS0 ?_
          change wpAnyH _ _ _ _ _ _ _ (Act.put _ (some 128) (.bool false)) _
          simp only [Act.put, List.setIfInBounds_toArray, List.set_cons_zero, List.set_cons_succ]
          refine wpAnyH_take (i := 30) (v := .bool false) rfl (by kernel_rfl) (by kernel_rfl) (by kernel_rfl) (fun _ _ _ h => h) (Or.inl ⟨by rfl, fun w' hS' => by go_simp⟩) hS0 ?_
          change wpAnyH _ _ _ _ _ _ _ (Act.put _ (some 129) (.bool false)) _
          simp only [Act.put, List.setIfInBounds_toArray, List.set_cons_zero, List.set_cons_succ]
          refine wpAnyH_take (i := 31) (v := .bool false) rfl (by kernel_rfl) (by kernel_rfl) (by kernel_rfl) (fun _ _ _ h => h) (Or.inl ⟨by rfl, fun w' hS' => by exact op_move rfl rfl⟩) hS0 ?_
          change wpAnyH _ _ _ _ _ _ _ (Act.put _ (some 130) (.bool false)) _
          simp only [Act.put, List.setIfInBounds_toArray, List.set_cons_zero, List.set_cons_succ]
          refine wpAnyH_take (i := 32) (v := .slice (some aN) L.length c6) rfl (by kernel_rfl) (by kernel_rfl) (by kernel_rfl) (fun _ _ _ h => h) (Or.inl ⟨by rfl, fun w' hS' => by exact op_move rfl rfl⟩) hS0 ?_
          change wpAnyH _ _ _ _ _ _ _ (Act.put _ (some 131) (.slice (some aN) L.length c6)) _
          simp only [Act.put, List.setIfInBounds_toArray, List.set_cons_zero, List.set_cons_succ]
          refine wpAnyH_take (i := 33) (v := .pointer (some aN)) rfl (by kernel_rfl) (by kernel_rfl) (by kernel_rfl) (fun _ _ _ h => h) (Or.inl ⟨by rfl, fun w' hS' => by go_simp⟩) hS0 ?_
          change wpAnyH _ _ _ _ _ _ _ (Act.put _ (some 132) (.pointer (some aN))) _
          simp only [Act.put, List.setIfInBounds_toArray, List.set_cons_zero, List.set_cons_succ]
          refine wpAnyH_take (i := 34) (v := .agg #[.int .u64 y.sum, .int .i64 y.len, .string y.left, .string y.right, .string y.val]) rfl (by kernel_rfl) (by kernel_rfl) (by kernel_rfl) (fun _ _ _ h => h) (Or.inl ⟨by rfl, fun w' hS' => by obtain ⟨y0, y1, y2, y3, y4⟩ := HHD.out _ hS'; go_simp⟩) hS0 ?_
          change wpAnyH _ _ _ _ _ _ _ (Act.put _ (some 133) (.agg #[.int .u64 y.sum, .int .i64 y.len, .string y.left, .string y.right, .string y.val])) _
          simp only [Act.put, List.setIfInBounds_toArray, List.set_cons_zero, List.set_cons_succ]
          refine wpAnyH_take (i := 35) (v := .agg #[.int .u64 y.sum, .int .i64 y.len, .string y.left, .string y.right, .string y.val]) rfl (by kernel_rfl) (by kernel_rfl) (by kernel_rfl) (fun _ _ _ h => h) (Or.inl ⟨by rfl, fun w' hS' => by obtain ⟨y0, y1, y2, y3, y4⟩ := HHY.out _ hS'; go_simp⟩) hS0 ?_
          change wpAnyH _ _ _ _ _ _ _ (Act.put _ (some 134) (.agg #[.int .u64 y.sum, .int .i64 y.len, .string y.left, .string y.right, .string y.val])) _
          simp only [Act.put, List.setIfInBounds_toArray, List.set_cons_zero, List.set_cons_succ]
          refine wpAnyH_take (i := 36) (v := .bool false) rfl (by kernel_rfl) (by kernel_rfl) (by kernel_rfl) (fun _ _ _ h => h) (Or.inl ⟨by rfl, fun w' hS' => by go_simp⟩) hS0 ?_
          change wpAnyH _ _ _ _ _ _ _ (Act.put _ (some 135) (.bool false)) _
          simp only [Act.put, List.setIfInBounds_toArray, List.set_cons_zero, List.set_cons_succ]
          refine wpAnyH_take (i := 37) (v := .bool false) rfl (by kernel_rfl) (by kernel_rfl) (by kernel_rfl) (fun _ _ _ h => h) (Or.inl ⟨by rfl, fun w' hS' => by go_simp⟩) hS0 ?_
          change wpAnyH _ _ _ _ _ _ _ (Act.put _ (some 136) (.bool false)) _
          simp only [Act.put, List.setIfInBounds_toArray, List.set_cons_zero, List.set_cons_succ]
          refine wpAnyH_done (by kernel_rfl) ?_ _
          refine NoPanic.normal ?_
          go_wp2_with fail
          go_roundw
          case rel => exact ⟨k + 1, some aN, M, c6, f, by omega, by omega, by go_num, by rw [q2.out], by rw [q2.out]; exact hLp, Lib.hid ⟨HM3.out.drew, HMI.out.1, HMI.out.2.1, HMI.out.2.2, HX3.out.blk, HX3.out.below.drew, HNE.out⟩⟩
          case measure => simp [intOf]; omega

end Go.Proofs.Ytndhaickelbkiaa
