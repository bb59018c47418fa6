/-
  Fills of raw deeds: what each deed makes of them, and that they stay good. No walk.
-/
import Derived.Test.YtllkegonhghkcaaAwk
namespace Go.Proofs.Ytllkegonhghkcaa
open Go.RowKit P15

/-- three numbers -/
abbrev Tri := Int × Int × Int
def triC (z : Tri) : List Value := [.int .i64 z.1, .int .i64 z.2.1, .int .i64 z.2.2]
theorem tri_len : ∀ z : Tri, (triC z).length = 3 := fun _ => rfl
abbrev TrisAt (w : World) (A : Option Addr) (L : List Tri) : Prop := RowAt triC 3 w A L
def TriFit (z : Tri) : Prop := I64 z.1 ∧ I64 z.2.1 ∧ I64 z.2.2
theorem tri_cells {w : World} {A : Option Addr} {zs : List Tri} (h : TrisAt w A zs) {k : Nat} {z : Tri} (hk : zs[k]? = some z) :
    ∃ a, A = some a ∧ a.block < w.heap.size ∧ ∀ W, Below w.heap.size w W → W.cell? (a.add (k * 3)) = some (.int .i64 z.1) ∧ W.cell? ⟨(a.add (k * 3)).block, (a.add (k * 3)).off + 1, none⟩ = some (.int .i64 z.2.1) ∧ W.cell? ⟨(a.add (k * 3)).block, (a.add (k * 3)).off + 2, none⟩ = some (.int .i64 z.2.2) := by
  obtain ⟨a, e, hb, hc⟩ := h.at_ hk
  refine ⟨a, e, hb, fun W hW => ⟨?_, ?_, ?_⟩⟩
  · exact (hW.cell (by rw [add_block]; exact hb)).trans (hc 0 _ rfl)
  · rw [field_at _ _ 1 (by decide)]; exact (hW.cell (by rw [add_block]; exact hb)).trans (hc 1 _ rfl)
  · rw [field_at _ _ 2 (by decide)]; exact (hW.cell (by rw [add_block]; exact hb)).trans (hc 2 _ rfl)

/-! ### what stays -/
theorem nodup_bound : ∀ (k : Nat) (l : List Int), l.Nodup → (∀ n ∈ l, 0 ≤ n ∧ n < (k : Int)) → l.length ≤ k
  | 0, l, _, h => by
    cases l with
    | nil => exact Nat.le_refl _
    | cons n l => have := h n (by simp); omega
  | k + 1, l, hd, h => by
    have h1 : (l.erase (k : Int)).Nodup := hd.erase _
    have h2 := nodup_bound k (l.erase (k : Int)) h1 (fun n hn => by
      obtain ⟨hne, hm⟩ := hd.mem_erase_iff.1 hn
      have := h n hm
      omega)
    rw [List.length_erase] at h2
    split at h2 <;> omega
/-- right, of numbers from 0 to 7, and short texts -/
structure GoodF (L : List Fl) : Prop where
  right : Right L
  rng : ∀ n ∈ P15.nums L, 0 ≤ n ∧ n < 8
  size : ∀ x ∈ L, x.left.size ≤ 2 ∧ x.right.size ≤ 2
theorem GoodF.nil : GoodF [] := ⟨⟨List.nodup_nil, List.nodup_nil⟩, fun n hn => (by cases hn), fun x hx => (by cases hx)⟩
theorem GoodF.len {L : List Fl} (h : GoodF L) : (P15.nums L).length ≤ 8 := nodup_bound 8 _ h.right.2 h.rng
theorem nums_ge {L : List Fl} : L.length ≤ (P15.nums L).length ∧ ∀ x ∈ L, x.wait.length < (P15.nums L).length := by
  induction L with
  | nil => exact ⟨Nat.le_refl _, fun x hx => (by cases hx)⟩
  | cons y L ih =>
    rw [nums_cons, List.length_cons, List.length_cons, List.length_append]
    refine ⟨by omega, fun x hx => ?_⟩
    rcases List.mem_cons.1 hx with rfl | hx
    · omega
    · have := ih.2 x hx; omega
theorem GoodF.small {L : List Fl} (h : GoodF L) : L.length ≤ 8 ∧ ∀ x ∈ L, x.wait.length ≤ 7 := by
  have h1 := h.len
  refine ⟨by have := (nums_ge (L := L)).1; omega, fun x hx => by have := (nums_ge (L := L)).2 x hx; omega⟩
theorem GoodF.fit {L : List Fl} (h : GoodF L) : FitF L :=
  ⟨by have := h.small.1; omega, fun x hx => by have := h.small.2 x hx; have := h.size x hx; omega, fun n hn => by have := h.rng n hn; exact ⟨by omega, by omega⟩⟩
theorem GoodF.sub {L M : List Fl} (h : GoodF L) (hs : List.Sublist M L) : GoodF M :=
  ⟨h.right.sub hs, fun n hn => h.rng n ((nums_sub hs).subset hn), fun x hx => h.size x (hs.subset hx)⟩
theorem GoodF.ended {L : List Fl} (h : GoodF L) (who : Int) : GoodF (P15.ended L who) := h.sub (sub_ended L who)
theorem mem_gone {L : List Fl} {who n : Int} (h : n ∈ P15.nums (P15.gone L who)) : n ∈ P15.nums L := by
  refine (nodup_map_nums (L := L) (f := fun x => { x with wait := P15.without x.wait who }) fun x _ => ?_).subset h
  exact List.Sublist.cons_cons _ List.filter_sublist
theorem GoodF.gone {L : List Fl} (h : GoodF L) (who : Int) : GoodF (P15.gone L who) :=
  ⟨h.right.gone who, fun n hn => h.rng n (mem_gone hn), fun x hx => by
    obtain ⟨y, hy, rfl⟩ := List.mem_map.1 hx
    exact h.size y hy⟩
theorem GoodF.joined {L : List Fl} (h : GoodF L) {l r : ByteArray} {who : Int} (hw : who ∉ P15.nums L) (h0 : 0 ≤ who ∧ who < 8) : GoodF (P15.joined L l r who) :=
  ⟨h.right.joined hw, fun n hn => by
    rcases mem_joined hn with hn | rfl
    · exact h.rng n hn
    · exact h0, fun x hx => by
    obtain ⟨y, hy, rfl⟩ := List.mem_map.1 hx
    split
    · exact h.size y hy
    · exact h.size y hy⟩
theorem GoodF.new {L : List Fl} (h : GoodF L) {l r : ByteArray} {who : Int} (hw : who ∉ P15.nums L) (h0 : 0 ≤ who ∧ who < 8) (ht : (l, r) ∉ txts L) (h1 : l.size ≤ 2) (h2 : r.size ≤ 2) : GoodF (L ++ [⟨l, r, who, []⟩]) :=
  ⟨h.right.new hw ht, fun n hn => by
    rw [nums_append] at hn
    rcases List.mem_append.1 hn with hn | hn
    · exact h.rng n hn
    · have : n = who := by simpa [P15.nums, Fl.nums] using hn
      rw [this]; exact h0, fun x hx => by
    rcases List.mem_append.1 hx with hx | hx
    · exact h.size x hx
    · rw [List.mem_singleton.1 hx]; exact ⟨h1, h2⟩⟩
theorem GoodF.begin {L N : List Fl} {l r : ByteArray} {who e : Int} {b : Bool} (h : GoodF L) (hb : beginF L l r who = (b, N, e)) (h0 : 0 ≤ who ∧ who < 8) (h1 : l.size ≤ 2) (h2 : r.size ≤ 2) (he : e = 0) : GoodF N := by
  have hr := rightB_iff.2 h.right
  by_cases hw : who ∈ P15.nums L
  · rw [beginF_twice hr hw] at hb
    injection hb with _ hb; injection hb with _ hb
    rw [he] at hb; cases hb
  · by_cases ht : (l, r) ∈ txts L
    · rw [beginF_join hr hw ht] at hb
      injection hb with _ hb; injection hb with hb _
      rw [← hb]; exact h.joined hw h0
    · rw [beginF_new hr hw ht] at hb
      injection hb with _ hb; injection hb with hb _
      rw [← hb]; exact h.new hw h0 ht h1 h2
theorem GoodF.done {L N : List Fl} {l : List Int} {who e : Int} (h : GoodF L) (hb : doneF L who = (l, N, e)) (he : e = 0) : GoodF N := by
  have hr := rightB_iff.2 h.right
  by_cases hw : who ∈ bys L
  · obtain ⟨x, hx, hxb⟩ := mem_bys.1 hw
    rw [doneF_some hr hx hxb] at hb
    injection hb with _ hb; injection hb with hb _
    rw [← hb]; exact h.ended who
  · rw [doneF_none hr hw] at hb
    injection hb with _ hb; injection hb with _ hb
    rw [he] at hb; cases hb
theorem GoodF.leave {L N : List Fl} {who e : Int} (h : GoodF L) (hb : leaveF L who = (N, e)) (he : e = 0) : GoodF N := by
  have hr := rightB_iff.2 h.right
  by_cases hw : who ∈ waits L
  · rw [leaveF_some hr hw] at hb
    injection hb with hb _
    rw [← hb]; exact h.gone who
  · rw [leaveF_none hr hw] at hb
    injection hb with _ hb
    rw [he] at hb; cases hb
/-- what a deed makes of fills -/
def deedF (f : List Fl) (z : Tri) : List Fl :=
  if pickI z.1 6 = 4 then (if (doneF f (pickI z.2.1 8)).2.2 = 0 then (doneF f (pickI z.2.1 8)).2.1 else f)
  else if pickI z.1 6 = 5 then (if (leaveF f (pickI z.2.1 8)).2 = 0 then (leaveF f (pickI z.2.1 8)).1 else f)
  else (if (beginF f (textOf z.2.2) (textOf (z.2.2.tdiv 6)) (pickI z.2.1 8)).2.2 = 0 then (beginF f (textOf z.2.2) (textOf (z.2.2.tdiv 6)) (pickI z.2.1 8)).2.1 else f)
theorem GoodF.deed {f : List Fl} (h : GoodF f) (z : Tri) : GoodF (deedF f z) := by
  have hp := pickI_range z.2.1 8 (by omega)
  unfold deedF
  split
  · split
    · exact h.done (Prod.ext rfl (Prod.ext rfl rfl) : doneF f (pickI z.2.1 8) = (_, _, _)) (by assumption)
    · exact h
  · split
    · split
      · exact h.leave (Prod.ext rfl rfl : leaveF f (pickI z.2.1 8) = (_, _)) (by assumption)
      · exact h
    · split
      · exact h.begin (Prod.ext rfl (Prod.ext rfl rfl) : beginF f (textOf z.2.2) (textOf (z.2.2.tdiv 6)) (pickI z.2.1 8) = (_, _, _)) hp (textOf_size _) (textOf_size _) (by assumption)
      · exact h
def fillsN (zs : List Tri) (k : Nat) : List Fl := (zs.take k).foldl deedF []
theorem fillsN_snoc {zs : List Tri} {k : Nat} {z : Tri} (h : zs[k]? = some z) : fillsN zs (k + 1) = deedF (fillsN zs k) z := by
  unfold fillsN
  rw [take_snoc h, List.foldl_append]; rfl
theorem good_fold : ∀ (zs : List Tri) {f : List Fl}, GoodF f → GoodF (zs.foldl deedF f)
  | [], _, h => h
  | z :: zs, _, h => good_fold zs (h.deed z)
theorem fillsN_good (zs : List Tri) (k : Nat) : GoodF (fillsN zs k) := good_fold _ GoodF.nil
def fillsOf (zs : List Tri) : List Fl := fillsN zs 20
theorem fillsOf_good (zs : List Tri) : GoodF (fillsOf zs) := fillsN_good zs 20

end Go.Proofs.Ytllkegonhghkcaa
