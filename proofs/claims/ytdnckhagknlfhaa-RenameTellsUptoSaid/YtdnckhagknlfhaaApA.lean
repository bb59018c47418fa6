/-
  Steps of a drawn region that makes slices of bytes and lists of items: what is held may be strengthened on the way, so that what only reads what was just made is taken first.
-/
import Derived.Test.YtdnckhagknlfhaaItsMore
import Derived.Test.YtdnckhagknlfhaaMore
import Derived.Deep.RegionHeld3
import Derived.Deep.DeepCutAuto
import Derived.Laws.IdiomStrings
import Derived.Laws.MakeOwn
namespace Go.Proofs.Ytdnckhagknlfhaa
open Go.RowKit

/-- so many bytes of zero -/
def zb (n : Nat) : ByteArray := ⟨(List.replicate n (0 : UInt8)).toArray⟩
/-- what is held may be strengthened on the way -/
theorem wpAnyH_more {P : Program} {md : Region.Mode} {ops : Array Oper} {Q : Exit → Act → World → Prop} {S S' : World → Prop} (hS : ∀ w, S' w → S w) : ∀ {fuel : Nat} {listed : Array Bool} {a : Act} {w : World}, wpAnyH P md ops Q S' fuel listed a w → wpAnyH P md ops Q S fuel listed a w
  | 0, _, _, _, h => h
  | _ + 1, _, _, _, h => ⟨h.1, fun i hi => wpOp_mono (fun _ w' h' => ⟨hS w' h'.1, wpAnyH_more hS h'.2⟩) (h.2 i hi)⟩
theorem step_op_run {P : Program} {ops : Array Oper} {o : Oper} {a : Act} {w w' : World} {K : Act → World → Prop} {Q : Exit → Act → World → Prop} {E : Prop} {v' : Value}
    (hrun : (execOp a.eval o).run P w = .ok (.value v') w') (hgd : o.guard = none) (h : K (a.put o.dst v') w') : if Region.wanted o (yielded ops a.tmps) = true then Oper.wp P o a w K Q else E := by
  have hw : Region.wanted o (yielded ops a.tmps) = true := by simp [Region.wanted, hgd]
  rw [if_pos hw]
  unfold Oper.wp
  rw [hrun]
  exact h
theorem info_u8 : (Try.prog.info? 5).map (fun i => (i.zero, i.size, i.bytes)) = some (some (.int .u8 0), 1, 1) := by kernel_rfl
theorem under_u8 : Try.prog.underlying 5 = some (.int .u8) := by kernel_rfl
/-- cells of zero -/
def zc (n : Nat) : Array Value := madeCells (Value.cells (.int .u8 0)) (n * 1)
theorem zc_at (n j : Nat) (h : j < n) : (zc n)[j]? = some (.int .u8 0) := by
  have hs : j < (zc n).size := by unfold zc madeCells; simpa using h
  rw [Array.getElem?_eq_getElem hs]
  unfold zc madeCells
  simp [Value.cells, Nat.mod_one]
theorem make_z (n : Nat) (hn : n ≤ 1000) (W : World) :
    ∃ g W1, (∀ (o : Oper) (a : Act), o.op = Op.makeSlice 46 (.const (.int .i64 (n : Int))) (.const (.int .i64 (n : Int))) → (execOp a.eval o).run Try.prog W = .ok (.value (.slice (some ⟨g, 0, none⟩) n n)) W1) ∧ Blk W1 g 5 (zc n) ∧ Below W.heap.size W W1 ∧ W.heap.size ≤ g := by
  obtain ⟨i0, hi, hz0, hz1, hz2⟩ := info_parts info_u8
  have hr := run_make (P := Try.prog) W 46 5 i0 _ Try.underlying46 hi hz0 .i64 .i64 (n : Int) (n : Int) (by omega) (Int.le_refl _) (by rw [hz2]; omega) (by omega)
  refine ⟨W.heap.size, W.alloc (.cells (zc n) 5), fun o a ho => ?_, Blk.new _ _ _, (Below.refl _ _).alloc (Nat.le_refl _) _, Nat.le_refl _⟩
  rw [hz1] at hr
  simp only [Int.toNat_natCast] at hr
  simp [execOp, ho, Act.eval, hr, zc]
theorem conv_z {n g : Nat} {o : Oper} {a : Act} {x : Operand} (ho : o.op = Op.convert 46 9 x) (hx : a.eval x = .slice (some ⟨g, 0, none⟩) n n) {W : World} (hb : Blk W g 5 (zc n)) :
    (execOp a.eval o).run Try.prog W = .ok (.value (.string (zb n))) W := by
  have hr := run_convert_bytes_back (P := Try.prog) W 46 9 5 ⟨g, 0, none⟩ n (List.replicate n 0) Try.underlying46 under_u8 Try.underlying9 (fun j hj => by
    rw [add_zero_block, hb.cell j, zc_at n j (by simpa using hj)]
    simp)
  simp only [List.length_replicate] at hr
  simp [execOp, ho, hx, hr, zb]
/-- a new item of no data -/
theorem op_alloc (W : World) :
    ∃ g W1, (∀ (o : Oper) (a : Act), o.op = Op.alloc 33 → (execOp a.eval o).run Try.prog W = .ok (.value (.pointer (some ⟨g, 0, none⟩))) W1) ∧ Blk W1 g 33 #[.string ⟨#[]⟩, .int .i64 0, .string ⟨#[]⟩, .bool false] ∧ Below W.heap.size W W1 ∧ W.heap.size ≤ g := by
  refine ⟨W.heap.size, W.alloc (.cells #[.string ⟨#[]⟩, .int .i64 0, .string ⟨#[]⟩, .bool false] 33), fun o a ho => ?_, Blk.new _ _ _, (Below.refl _ _).alloc (Nat.le_refl _) _, Nat.le_refl _⟩
  rw [show execOp a.eval o = execOp a.eval { o with op := Op.alloc 33 } from by rw [← ho]]
  kernel_rfl

theorem step_op_skip {P : Program} {ops : Array Oper} {o : Oper} {a : Act} {w w' : World} {K : Act → World → Prop} {Q : Exit → Act → World → Prop} {E : Prop}
    (hrun : (execOp a.eval o).run P w = .ok .skip w') (hgd : o.guard = none) (h : K (a.put o.dst undef) w') : if Region.wanted o (yielded ops a.tmps) = true then Oper.wp P o a w K Q else E := by
  have hw : Region.wanted o (yielded ops a.tmps) = true := by simp [Region.wanted, hgd]
  rw [if_pos hw]
  unfold Oper.wp
  rw [hrun]
  exact h
theorem blk_ne {w : World} {g h : Nat} {t u : TypeId} {cs ds : Array Value} (a : Blk w g t cs) (b : Blk w h u ds) (hn : t ≠ u) : g ≠ h := fun e => by
  subst e
  unfold Blk at a b
  rw [a] at b
  injection b with b
  injection b with _ b
  exact hn b
/-- an item's cells -/
abbrev ic (p d : ByteArray) (k : Int) : Array Value := #[.string p, .int .i64 k, .string d, .bool false]
theorem op_store (g : Nat) (p d p0 d0 : ByteArray) (k k0 : Int) (W : World) (hb : Blk W g 33 (ic p0 d0 k0)) :
    ∃ W1, (∀ (o : Oper) (a : Act) (x y : Operand), o.op = Op.store 33 x y → a.eval x = .pointer (some ⟨g, 0, none⟩) → a.eval y = .agg #[.string p, .int .i64 k, .string d, .bool false] → (execOp a.eval o).run Try.prog W = .ok .skip W1) ∧
      Blk W1 g 33 (ic p d k) ∧ W.grownBy W1 (some g) := by
  have y0 := Blk.cell hb 0
  have y1 := Blk.cell hb 1
  have y2 := Blk.cell hb 2
  have y3 := Blk.cell hb 3
  have z0 := Blk.frozen hb 0
  have z1 := Blk.frozen hb 1
  have z2 := Blk.frozen hb 2
  have z3 := Blk.frozen hb 3
  simp only [List.getElem?_toArray, List.getElem?_cons_zero, List.getElem?_cons_succ] at y0 y1 y2 y3
  refine ⟨(((W.setCell ⟨g, 0, none⟩ (.string p)).setCell ⟨g, 1, none⟩ (.int .i64 k)).setCell ⟨g, 2, none⟩ (.string d)).setCell ⟨g, 3, none⟩ (.bool false), fun o a x y ho hx hy => ?_,
    (((Blk.set_ hb 0 (.string p)).set_ 1 (.int .i64 k)).set_ 2 (.string d)).set_ 3 (.bool false), (((grown_set _ _ _ _).trans (grown_set _ _ _ _)).trans (grown_set _ _ _ _)).trans (grown_set _ _ _ _)⟩
  simp only [execOp, ho, hx, hy]
  go_simp
theorem op_load {g : Nat} {p d : ByteArray} {k : Int} {o : Oper} {a : Act} {x : Operand} {W : World} (ho : o.op = Op.load 33 x) (hx : a.eval x = .pointer (some ⟨g, 0, none⟩)) (hb : Blk W g 33 (ic p d k)) :
    (execOp a.eval o).run Try.prog W = .ok (.value (.agg #[.string p, .int .i64 k, .string d, .bool false])) W := by
  have y0 := Blk.cell hb 0
  have y1 := Blk.cell hb 1
  have y2 := Blk.cell hb 2
  have y3 := Blk.cell hb 3
  simp only [List.getElem?_toArray, List.getElem?_cons_zero, List.getElem?_cons_succ] at y0 y1 y2 y3
  simp only [execOp, ho, hx]
  go_simp
theorem op_cat {s t : ByteArray} {o : Oper} {a : Act} {x y : Operand} {W : World} (ho : o.op = Op.binOp BinOp.add 9 x y 9) (hx : a.eval x = .string s) (hy : a.eval y = .string t) (h : s.size + t.size ≤ 9223372036854775807) :
    (execOp a.eval o).run Try.prog W = .ok (.value (.string (s ++ t))) W := by
  have h' : ¬ 9223372036854775807 < s.size + t.size := by omega
  simp only [execOp, ho, hx, hy]
  go_simp
theorem op_build {p d : ByteArray} {o : Oper} {a : Act} {x : Nat} {W : World} (ho : o.op = Op.build 33 #[(0, .const (.string p)), (1, .const (.int .i64 2)), (2, .tmp x)]) (hx : a.eval (.tmp x) = .string d) :
    (execOp a.eval o).run Try.prog W = .ok (.value (.agg #[.string p, .int .i64 2, .string d, .bool false])) W := by
  have hx' : a.tmps[x]?.getD undef = .string d := by simpa [Act.eval] using hx
  simp only [execOp, ho]
  go_simp
theorem op_slice (p d : ByteArray) (k : Int) (W : World) :
    ∃ g W1, (∀ (o : Oper) (a : Act) (x : Nat), o.op = Op.buildSlice 23 1 #[(0, .tmp x)] → a.eval (.tmp x) = .agg #[.string p, .int .i64 k, .string d, .bool false] → (execOp a.eval o).run Try.prog W = .ok (.value (.slice (some ⟨g, 0, none⟩) 1 1)) W1) ∧
      Blk W1 g 33 (ic p d k) ∧ Below W.heap.size W W1 ∧ W.heap.size ≤ g := by
  refine ⟨W.heap.size, W.alloc (.cells (ic p d k) 33), fun o a x ho hx => ?_, Blk.new _ _ _, (Below.refl _ _).alloc (Nat.le_refl _) _, Nat.le_refl _⟩
  have hx' : a.tmps[x]?.getD undef = .agg #[.string p, .int .i64 k, .string d, .bool false] := by simpa [Act.eval] using hx
  simp only [execOp, ho]
  go_simp
theorem op_move {v : Value} {o : Oper} {a : Act} {x : Operand} {W : World} (ho : o.op = Op.move x) (hx : a.eval x = v) : (execOp a.eval o).run Try.prog W = .ok (.value v) W := by
  simp [execOp, ho, hx]
theorem op_assign {v : Value} {o : Oper} {a : Act} {x : Operand} {W : World} (ho : o.op = Op.assign x) (hx : a.eval x = v) : (execOp a.eval o).run Try.prog W = .ok (.value v) W := by
  simp [execOp, ho, hx]
theorem one_item {W : World} {g : Nat} {p d : ByteArray} {k : Int} (hb : Blk W g 33 (ic p d k)) : ItemsAt W (some ⟨g, 0, none⟩) [⟨p, k, d, false⟩] := fun _ => by
  refine ⟨⟨g, 0, none⟩, rfl, hb.lt, fun j it hj => ?_⟩
  have y0 := Blk.cell hb 0
  have y1 := Blk.cell hb 1
  have y2 := Blk.cell hb 2
  have y3 := Blk.cell hb 3
  simp only [List.getElem?_toArray, List.getElem?_cons_zero, List.getElem?_cons_succ] at y0 y1 y2 y3
  have hj0 : j = 0 := by
    rcases Nat.lt_or_ge j 1 with h | h
    · omega
    · rw [List.getElem?_eq_none (by simpa using h)] at hj; cases hj
  subst hj0
  have e : it = ⟨p, k, d, false⟩ := by simpa using hj.symm
  subst e
  rw [add_zero_block]
  exact ⟨y0, y1, y2, y3⟩
theorem kept_below {w0 W W1 : World} {g : Nat} (h : Below w0.heap.size w0 W) (hg : W.grownBy W1 (some g)) (hn : w0.heap.size ≤ g) : Below w0.heap.size w0 W1 := h.grown hg h.size (fun k hk => by injection hk with hk; omega)
/-- an append of items, with what it leaves as it was -/
theorem append_kept {w0 w : World} {v : Value} {L M : List It} (h : OwnI w0 w v L) {A : Option Addr} (m c : Nat) (hA : ItemsAt w A M) (hm : M.length = m) (Y : List It) (hY : Y = L ++ M) (hb : Y.length ≤ 65536) :
    ∃ A' c' w', (Builtin.append_ #[23, 23] 23 #[v, .slice A m c]).run Try.prog w = .ok (.slice A' Y.length c') w' ∧ OwnI w0 w' (.slice A' Y.length c') Y ∧ w.grownBy w' v.ownBlock := by
  subst hm
  have hl : L.length + M.length = Y.length := by rw [hY, List.length_append]
  obtain ⟨i0, hi, hz0, hz1, hz2⟩ := info_parts info33
  cases A with
  | none =>
    have hn : M = [] := Classical.byContradiction fun g => by obtain ⟨a, e, _⟩ := hA g; cases e
    subst hn
    have hYL : Y = L := by rw [hY, List.append_nil]
    subst hYL
    have hrun : (Builtin.append_ #[23, 23] 23 #[v, .slice none 0 c]).run Try.prog w = .ok v w := by
      rcases h.1.2 with ⟨rfl, _⟩ | ⟨g, cap, cur, rfl, _, _, hnc, _⟩
      · simp [Builtin.append_, run_underlying Try.underlying23, sizeOf, typeInfo, hi, Builtin.lenOf, Builtin.firstCells]
      · simp [Builtin.append_, run_underlying Try.underlying23, sizeOf, typeInfo, hi, Builtin.lenOf, Builtin.firstCells, hnc, storeCells]
    obtain ⟨A', c', rfl⟩ := own_slice h.1
    exact ⟨A', c', w, hrun, h, ⟨rfl, rfl, rfl, Nat.le_refl _, fun _ _ _ => rfl⟩⟩
  | some a =>
    obtain ⟨v', w', hrun, h2, h3, _, _⟩ := run_append_own_at (P := Try.prog) w w0.heap.size 23 23 33 i0 _ 4 48 Try.underlying23 hi hz0 hz1 hz2 rfl (by decide) v L.length (L.flatMap It.cells) h.1
      a M.length c (M.flatMap It.cells) (flat_len its_len M) (items_cells hA) (by intro u hu; obtain ⟨x, _, hx⟩ := List.mem_flatMap.1 hu; exact its_one x u hx) (by unfold maxLen; omega) (by omega) h.2.size
    obtain ⟨A', c', rfl⟩ := own_slice h2
    rw [hl] at hrun h2
    refine ⟨A', c', w', hrun, ⟨?_, h.2.grown h3 h.2.size (fun g e => (h.1.lt g e).1)⟩, h3⟩
    rw [hY] at h2 ⊢
    rw [List.flatMap_append]
    exact h2
theorem OwnI.far {w0 w : World} {v : Value} {L : List It} (h : OwnI w0 w v L) {g : Nat} (hg : w.heap.size ≤ g) : some g ≠ v.ownBlock := fun e => by
  have := (h.1.lt g e.symm).2
  omega
theorem OwnI.nil_at {w0 w : World} (h : Below w0.heap.size w0 w) : OwnI w0 w (.slice none 0 0) [] := ⟨World.ownsRow_nil _ _ _ _, h⟩

/-- an item is made -/
def MadeI (w : World) (p d : ByteArray) (k : Int) (s : Value) (wx : World) : Prop := ∃ g, s = .pointer (some ⟨g, 0, none⟩) ∧ w.heap.size ≤ g ∧ Blk wx g 33 (ic p d k) ∧ Below w.heap.size w wx
/-- a list of items is made -/
def MadeL (w : World) (Y : List It) (s : Value) (wx : World) : Prop := ∃ A c, s = .slice A Y.length c ∧ ItemsAt wx A Y ∧ Below w.heap.size w wx

end Go.Proofs.Ytdnckhagknlfhaa
