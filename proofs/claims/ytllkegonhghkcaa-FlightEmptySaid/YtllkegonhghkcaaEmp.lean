/-
  Where all have left, and all are done: plain mathematics.
-/
import Derived.Test.YtllkegonhghkcaaFls
namespace Go.Proofs.Ytllkegonhghkcaa
open Go.RowKit P15

def sumW (L : List Fl) : Nat := (waits L).length
theorem sumW_nil : sumW [] = 0 := rfl
theorem sumW_append (L M : List Fl) : sumW (L ++ M) = sumW L + sumW M := by unfold sumW; rw [waits_append, List.length_append]
theorem sumW_one (x : Fl) : sumW [x] = x.wait.length := by simp [sumW, waits]
theorem sumW_take {L : List Fl} {k : Nat} {x : Fl} (h : L[k]? = some x) : sumW (L.take (k + 1)) = sumW (L.take k) + x.wait.length := by
  rw [take_snoc h, sumW_append, sumW_one]
theorem waits_sub : ∀ L : List Fl, List.Sublist (waits L) (P15.nums L)
  | [] => List.Sublist.refl _
  | x :: L => by
    show List.Sublist (x.wait ++ waits L) (x.by_ :: (x.wait ++ P15.nums L))
    exact ((List.Sublist.refl x.wait).append (waits_sub L)).cons _
theorem sumW_le {L : List Fl} (h : GoodF L) : sumW L ≤ 8 := Nat.le_trans (waits_sub L).length_le h.len
theorem sumW_take_le (L : List Fl) (k : Nat) : sumW (L.take k) ≤ sumW L := by
  have : sumW (L.take k ++ L.drop k) = sumW (L.take k) + sumW (L.drop k) := sumW_append _ _
  rw [List.take_append_drop] at this
  omega
theorem waits_gone (L : List Fl) (who : Int) : waits (gone L who) = without (waits L) who := by
  induction L with
  | nil => rfl
  | cons x L ih =>
    show without x.wait who ++ waits (gone L who) = without (x.wait ++ waits L) who
    rw [ih]; unfold without; rw [List.filter_append]
theorem gone_none {L : List Fl} {who : Int} (h : who ∉ waits L) : gone L who = L := by
  unfold gone
  refine (List.map_congr_left (g := id) fun x hx => ?_).trans (List.map_id _)
  show ({ x with wait := without x.wait who } : Fl) = x
  rw [without_none fun h' => h (mem_waits.2 ⟨x, hx, h'⟩)]
theorem sumW_gone {L : List Fl} {who : Int} (hr : Right L) (h : who ∈ waits L) : sumW (gone L who) + 1 = sumW L := by
  have hn : (waits L).Nodup := hr.2.sublist (waits_sub L)
  unfold sumW
  rw [waits_gone]
  have e : without (waits L) who = (waits L).erase who := by
    rw [hn.erase_eq_filter]
    unfold without
    congr 1
    funext n
    by_cases hh : n = who <;> simp [hh]
  have := List.length_pos_of_mem h
  rw [e, List.length_erase_of_mem h]
  omega
theorem ended_none {L : List Fl} {who : Int} (h : who ∉ bys L) : ended L who = L :=
  List.filter_eq_self.2 fun x hx => decide_eq_true fun e => h (mem_bys.2 ⟨x, hx, e⟩)
theorem sumW_ended {L : List Fl} {who : Int} {x : Fl} (hr : Right L) (hx : x ∈ L) (hw : x.by_ = who) : sumW (ended L who) + x.wait.length = sumW L := by
  obtain ⟨i, hi⟩ := List.getElem?_of_mem hx
  rw [ended_at hr.2 hi hw, sumW_append]
  have : sumW L = sumW (L.take i ++ x :: L.drop (i + 1)) := by rw [← split_at hi]
  rw [this, sumW_append, show x :: L.drop (i + 1) = [x] ++ L.drop (i + 1) from rfl, sumW_append, sumW_one]
  omega
/-- those below k have left -/
def goneTo (L : List Fl) : Nat → List Fl
  | 0 => L
  | k + 1 => gone (goneTo L k) (k : Int)
theorem goneTo_good {L : List Fl} (h : GoodF L) : ∀ k, GoodF (goneTo L k)
  | 0 => h
  | k + 1 => (goneTo_good h k).gone _
theorem goneTo_mem {L : List Fl} {n : Int} : ∀ {k : Nat}, n ∈ waits (goneTo L k) → n ∈ waits L ∧ ¬ (0 ≤ n ∧ n < (k : Int))
  | 0, h => ⟨h, by omega⟩
  | k + 1, h => by
    rw [show goneTo L (k + 1) = gone (goneTo L k) (k : Int) from rfl, waits_gone] at h
    obtain ⟨h1, h2⟩ := List.mem_filter.1 h
    have := goneTo_mem h1
    have hne : n ≠ (k : Int) := of_decide_eq_true h2
    exact ⟨this.1, by omega⟩
theorem goneTo_all {L : List Fl} (h : GoodF L) : sumW (goneTo L 8) = 0 := by
  have : waits (goneTo L 8) = [] := List.eq_nil_iff_forall_not_mem.2 fun n hn => by
    have h1 := goneTo_mem hn
    have h2 := h.rng n ((waits_sub L).subset h1.1)
    omega
  unfold sumW
  rw [this]; rfl
/-- those below k are done -/
def endTo (L : List Fl) : Nat → List Fl
  | 0 => L
  | k + 1 => ended (endTo L k) (k : Int)
theorem endTo_good {L : List Fl} (h : GoodF L) : ∀ k, GoodF (endTo L k)
  | 0 => h
  | k + 1 => (endTo_good h k).ended _
theorem endTo_mem {L : List Fl} {x : Fl} : ∀ {k : Nat}, x ∈ endTo L k → x ∈ L ∧ ¬ (0 ≤ x.by_ ∧ x.by_ < (k : Int))
  | 0, h => ⟨h, by omega⟩
  | k + 1, h => by
    obtain ⟨h1, h2⟩ := List.mem_filter.1 (show x ∈ ended (endTo L k) (k : Int) from h)
    have := endTo_mem h1
    have hne : x.by_ ≠ (k : Int) := of_decide_eq_true h2
    exact ⟨this.1, by omega⟩
theorem endTo_all {L : List Fl} (h : GoodF L) : endTo L 8 = [] :=
  List.eq_nil_iff_forall_not_mem.2 fun x hx => by
    have h1 := endTo_mem hx
    have h2 := h.rng x.by_ (mem_nums.2 ⟨x, h1.1, .inl rfl⟩)
    omega

end Go.Proofs.Ytllkegonhghkcaa
