/-
  Many who begin with the same texts: plain mathematics.
-/
import Derived.Test.YtllkegonhghkcaaFls
namespace Go.Proofs.Ytllkegonhghkcaa
open Go.RowKit P15

def upto (k : Nat) : List Int := (List.range k).map fun (j : Nat) => (j : Int) + 1
theorem upto_succ (k : Nat) : upto (k + 1) = upto k ++ [(k : Int) + 1] := by unfold upto; rw [List.range_succ, List.map_append]; rfl
theorem mem_upto {k : Nat} {n : Int} : n ∈ upto k ↔ 1 ≤ n ∧ n ≤ (k : Int) := by
  induction k with
  | zero => simp [upto]; omega
  | succ k ih => rw [upto_succ, List.mem_append, ih, List.mem_singleton]; omega
theorem upto_nodup (k : Nat) : (upto k).Nodup := by
  induction k with
  | zero => simp [upto]
  | succ k ih => rw [upto_succ]; exact nodup_snoc ih fun h => by have := mem_upto.1 h; omega
theorem upto_len (k : Nat) : (upto k).length = k := by simp [upto]
def manyF (l r : ByteArray) (k : Nat) : List Fl := if k = 0 then [] else [⟨l, r, 0, upto (k - 1)⟩]
theorem manyF_zero (l r : ByteArray) : manyF l r 0 = [] := rfl
theorem manyF_succ (l r : ByteArray) (k : Nat) : manyF l r (k + 1) = [⟨l, r, 0, upto k⟩] := rfl
theorem one_right {l r : ByteArray} {b : Int} {ws : List Int} (h : ws.Nodup) (hb : b ∉ ws) : Right [⟨l, r, b, ws⟩] :=
  ⟨by simp [txts], by
    have : P15.nums [⟨l, r, b, ws⟩] = b :: ws := by simp [P15.nums, Fl.nums]
    rw [this]; exact List.nodup_cons.2 ⟨hb, h⟩⟩
theorem one_fit {l r : ByteArray} {b : Int} {ws : List Int} (h1 : l.size ≤ 2) (h2 : r.size ≤ 2) (hl : ws.length ≤ 1000) (hb : I64 b) (hw : ∀ n ∈ ws, I64 n) : FitF [⟨l, r, b, ws⟩] :=
  ⟨by simp, fun x hx => by rw [List.mem_singleton.1 hx]; exact ⟨hl, by show l.size ≤ _; omega, by show r.size ≤ _; omega⟩, fun n hn => by
    have : P15.nums [⟨l, r, b, ws⟩] = b :: ws := by simp [P15.nums, Fl.nums]
    rw [this] at hn
    rcases List.mem_cons.1 hn with rfl | hn
    · exact hb
    · exact hw n hn⟩
theorem manyF_fit {l r : ByteArray} (h1 : l.size ≤ 2) (h2 : r.size ≤ 2) {k : Nat} (hk : k ≤ 20) : FitF (manyF l r k) := by
  cases k with
  | zero => exact fit_nil
  | succ k => exact one_fit h1 h2 (by rw [upto_len]; omega) ⟨by omega, by omega⟩ fun n hn => by have := mem_upto.1 hn; exact ⟨by omega, by omega⟩
theorem begin_many (l r : ByteArray) (k : Nat) : beginF (manyF l r k) l r (k : Int) = (decide (k = 0), manyF l r (k + 1), 0) := by
  cases k with
  | zero =>
    have e : manyF l r (0 + 1) = [] ++ [⟨l, r, 0, []⟩] := rfl
    rw [e, manyF_zero]
    exact beginF_new (right_of (by simp [txts]) (by simp [P15.nums])) (by simp [P15.nums]) (by simp [txts])
  | succ k =>
    have hr : rightB (manyF l r (k + 1)) = true := rightB_iff.2 (one_right (upto_nodup k) fun h => by have := mem_upto.1 h; omega)
    rw [beginF_join hr ?_ ?_]
    · rw [manyF_succ, manyF_succ, upto_succ]
      unfold joined
      simp [Fl.txt]
    · have : P15.nums (manyF l r (k + 1)) = 0 :: upto k := by simp [manyF_succ, P15.nums, Fl.nums]
      rw [this]
      intro h
      rcases List.mem_cons.1 h with h | h
      · omega
      · have := mem_upto.1 h; omega
    · simp [manyF_succ, txts, Fl.txt]
/-- of those who wait, all but one -/
def wantN (g : Int) (k : Nat) : List Int := without (upto (k - 1)) g
theorem want_zero (g : Int) : wantN g 0 = [] := rfl
theorem want_one (g : Int) : wantN g 1 = [] := rfl
theorem want_ne {g : Int} {k : Nat} (hk : 0 < k) (h : (k : Int) ≠ g) : wantN g (k + 1) = wantN g k ++ [(k : Int)] := by
  obtain ⟨j, rfl⟩ : ∃ j, k = j + 1 := ⟨k - 1, by omega⟩
  unfold wantN
  show without (upto (j + 1)) g = without (upto j) g ++ _
  rw [upto_succ, without_snoc_ne (by omega)]
  rfl
theorem want_eq {g : Int} {k : Nat} (hk : 0 < k) (h : (k : Int) = g) : wantN g (k + 1) = wantN g k := by
  obtain ⟨j, rfl⟩ : ∃ j, k = j + 1 := ⟨k - 1, by omega⟩
  unfold wantN
  show without (upto (j + 1)) g = without (upto j) g
  rw [upto_succ, without_snoc_eq (by omega)]
theorem want_len (g : Int) (k : Nat) : (wantN g k).length ≤ k := by
  have := without_len (upto (k - 1)) g
  rw [upto_len] at this
  unfold wantN; omega
theorem want_fit (g : Int) {k : Nat} (hk : k ≤ 20) : ∀ n ∈ wantN g k, I64 n := fun n hn => by
  have := mem_upto.1 ((List.mem_filter.1 hn).1)
  exact ⟨by omega, by omega⟩
theorem want_right (l r : ByteArray) (g : Int) (k : Nat) : Right [⟨l, r, 0, wantN g k⟩] :=
  one_right ((upto_nodup _).sublist List.filter_sublist) fun h => by have := mem_upto.1 ((List.mem_filter.1 h).1); omega
theorem leave_many {l r : ByteArray} {g : Int} {n : Nat} (h1 : 1 ≤ g) (h2 : g < (n : Int)) : leaveF (manyF l r n) g = ([⟨l, r, 0, wantN g n⟩], 0) := by
  obtain ⟨j, rfl⟩ : ∃ j, n = j + 1 := ⟨n - 1, by omega⟩
  have hr : rightB (manyF l r (j + 1)) = true := rightB_iff.2 (one_right (upto_nodup j) fun h => by have := mem_upto.1 h; omega)
  rw [leaveF_some hr (by
    have : waits (manyF l r (j + 1)) = upto j := by simp [manyF_succ, waits]
    rw [this]; exact mem_upto.2 ⟨h1, by omega⟩)]
  rfl
theorem done_many (l r : ByteArray) (g : Int) (k : Nat) : doneF [⟨l, r, 0, wantN g k⟩] 0 = (wantN g k, [], 0) := by
  rw [doneF_some (rightB_iff.2 (want_right l r g k)) (List.mem_singleton.2 rfl) rfl]
  simp [ended]
theorem begin_again (l r : ByteArray) (g : Int) : beginF [] l r g = (true, [⟨l, r, g, []⟩], 0) :=
  beginF_new (L := []) (right_of (by simp [txts]) (by simp [P15.nums])) (by simp [P15.nums]) (by simp [txts])

end Go.Proofs.Ytllkegonhghkcaa
