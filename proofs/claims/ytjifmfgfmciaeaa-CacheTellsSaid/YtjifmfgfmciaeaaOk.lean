/-
  What the laws ask of package cache: chapter 14, in memory that is not that of what will be written. And caches that are right, of texts that are short.
-/
import Derived.Test.YtjifmfgfmciaeaaRpu
import Derived.Test.YtjifmfgfmciaeaaTxt
namespace Go.Proofs.Ytjifmfgfmciaeaa
open Go.RowKit

/-- what the laws ask of package cache -/
structure CacheOk : Prop where
  new : ∀ (p r w : Int) (W : World) (c : Ca) (b : Int), newC p r w = (c, b) → I64 p → I64 r → I64 w → ∀ (X : Nat → Prop), (∀ b, X b → b < W.heap.size) →
    Calls Try.prog 11 #[.int .i64 p, .int .i64 r, .int .i64 w] W (CaTold X c b W)
  right : ∀ (c : Ca) (A : Option Addr) (n cap : Nat) (w : World) (b : Bool), rightC c = b → ∀ (X : Nat → Prop), PartsAt X w A c.parts → c.parts.length = n → n ≤ cap → CaFit c →
    Calls Try.prog 16 #[.agg #[.int .i64 c.width, .int .i64 c.room, .slice A n cap, .int .i64 c.hits, .int .i64 c.misses, .int .i64 c.clashes, .int .i64 c.evicted]] w fun e w' => e = .returned (.bool b) ∧ Below w.heap.size w w'
  size : ∀ (c : Ca) (A : Option Addr) (n cap : Nat) (w : World) (X : Nat → Prop), PartsAt X w A c.parts → c.parts.length = n → n ≤ cap → CaFit c →
    Calls Try.prog 18 #[.agg #[.int .i64 c.width, .int .i64 c.room, .slice A n cap, .int .i64 c.hits, .int .i64 c.misses, .int .i64 c.clashes, .int .i64 c.evicted]] w fun e w' => e = .returned (.int .i64 (sizeC c : Nat)) ∧ Below w.heap.size w w'
  get : ∀ (c : Ca) (A : Option Addr) (n cap : Nat) (l r : ByteArray) (w : World) (s : ByteArray) (d : Ca) (b : Int), getC c l r = (s, d, b) → ∀ (X : Nat → Prop), (∀ b, X b → b < w.heap.size) → PartsAt X w A c.parts → c.parts.length = n → n ≤ cap → CaFit c → l.size ≤ 4096 → r.size ≤ 4096 →
    Calls Try.prog 21 #[.agg #[.int .i64 c.width, .int .i64 c.room, .slice A n cap, .int .i64 c.hits, .int .i64 c.misses, .int .i64 c.clashes, .int .i64 c.evicted], .string l, .string r] w (GetCTold X s d b w)
  put : ∀ (c : Ca) (A : Option Addr) (n cap : Nat) (l r v : ByteArray) (w : World) (d : Ca) (b : Int), putC c l r v = (d, b) → ∀ (X : Nat → Prop), (∀ b, X b → b < w.heap.size) → PartsAt X w A c.parts → c.parts.length = n → n ≤ cap → CaFit c → l.size ≤ 4096 → r.size ≤ 4096 → v.size ≤ 4096 →
    Calls Try.prog 23 #[.agg #[.int .i64 c.width, .int .i64 c.room, .slice A n cap, .int .i64 c.hits, .int .i64 c.misses, .int .i64 c.clashes, .int .i64 c.evicted], .string l, .string r, .string v] w (CaTold X d b w)

/-! ### caches that stay right -/
/-- right, with short texts, and not too many of them -/
structure Good (c : Ca) (m : Nat) : Prop where
  right : RightC c
  size : sizeC c ≤ m
  text : ∀ L ∈ c.parts, FitT L
theorem part_mem {c : Ca} {i : Nat} (h : i < c.parts.length) : c.part i ∈ c.parts := by
  unfold Ca.part
  rw [List.getElem?_eq_getElem h]
  exact List.getElem_mem h
theorem len_le_sum : ∀ (P : List (List Sl)) {L : List Sl}, L ∈ P → L.length ≤ (P.map List.length).sum
  | M :: P, L, h => by
    simp only [List.map_cons, List.sum_cons]
    rcases List.mem_cons.1 h with rfl | h
    · omega
    · have := len_le_sum P h
      omega
theorem len_le_size {c : Ca} {L : List Sl} (h : L ∈ c.parts) : L.length ≤ sizeC c := len_le_sum c.parts h
theorem Good.fit {c : Ca} {m : Nat} (h : Good c m) (hm : m ≤ 1000) : CaFit c := by
  have h1 := h.right
  have a := h1.n2
  have b := h1.r1
  have d := h1.r2
  have e := h1.w1
  have f := h1.w2
  have i1 := h1.ch
  have i2 := h1.cm
  have i3 := h1.cc
  have i4 := h1.ce
  unfold maxC at i1 i2 i3 i4
  exact ⟨by omega, fun L hL => ⟨Nat.le_trans (len_le_size hL) (Nat.le_trans h.size hm), h.text L hL⟩, ⟨by omega, by omega⟩, ⟨by omega, by omega⟩, ⟨by omega, by omega⟩, ⟨by omega, by omega⟩, ⟨by omega, by omega⟩, ⟨by omega, by omega⟩⟩
theorem Good.get {c : Ca} {m : Nat} (h : Good c m) (l r : ByteArray) : Good (getC c l r).2.1 m := by
  refine ⟨right_get h.right l r, by rw [size_get h.right]; exact h.size, ?_⟩
  have hn := Ca.num_lt h.right l r
  have hw := get_way h.right l r
  generalize getC c l r = g at hw
  cases hw with
  | none => exact h.text
  | clash => exact h.text
  | hit x ha =>
    obtain ⟨_, _, h3⟩ := got_part h.right ha
    intro L hL
    rcases List.mem_or_eq_of_mem_set hL with hL | rfl
    · exact h.text L hL
    · intro y hy
      exact h.text _ (part_mem hn) y ((h3 y).1 hy)
theorem key_fit (l r : ByteArray) (w : Int) (hl : l.size ≤ 4096) (hr : r.size ≤ 4096) : (Lit.int .u64 (bothK l r w).1).wf = true ∧ (Lit.int .i64 (bothK l r w).2).wf = true := by
  have h2 := Sm.low_lt (Sm.two l.data.toList r.data.toList) w
  unfold Sm.M at h2
  exact ⟨wf_u64 (show (0 : Int) ≤ ((Sm.low (Sm.two l.data.toList r.data.toList) w : Nat) : Int) by omega) (show ((Sm.low (Sm.two l.data.toList r.data.toList) w : Nat) : Int) ≤ _ by omega), wf_i64 (show _ ≤ (l.size : Int) + (r.size : Int) by omega) (show (l.size : Int) + (r.size : Int) ≤ _ by omega)⟩
theorem Good.put {c : Ca} {m : Nat} (h : Good c m) (l r v : ByteArray) (hl : l.size ≤ 4096) (hr : r.size ≤ 4096) (hv : v.size ≤ 4096) : Good (putC c l r v).1 (m + 1) := by
  have hn := Ca.num_lt h.right l r
  refine ⟨right_put h.right l r v, ?_, ?_⟩
  · have h1 := size_put h.right l r v
    have h2 := all_len h.right l r v
    have h3 := h.size
    omega
  · rw [put_eq h.right]
    intro L hL
    rcases List.mem_or_eq_of_mem_set hL with hL | rfl
    · exact h.text L hL
    · intro y hy
      rcases P13.mem_all.1 (List.mem_of_mem_take hy) with rfl | ⟨h1, -⟩
      · exact ⟨⟨hl, hr, hv⟩, key_fit l r c.width hl hr⟩
      · exact h.text _ (part_mem hn) y h1
theorem Good.new {p r w : Int} (h : fitsB p r w = true) : Good (newC p r w).1 0 := by
  refine ⟨right_new h, ?_, ?_⟩
  · unfold newC sizeC
    rw [if_pos h]
    simp
  · unfold newC
    rw [if_pos h]
    intro L hL
    have := (List.mem_replicate.1 hL).2
    subst this
    intro y hy
    cases hy
theorem Good.mono {c : Ca} {m m' : Nat} (h : Good c m) (hm : m ≤ m') : Good c m' := ⟨h.right, Nat.le_trans h.size hm, h.text⟩
theorem get_code {c : Ca} (h : RightC c) (l r : ByteArray) : (getC c l r).2.2 = 0 ∨ (getC c l r).2.2 = 10 := by
  have hw := get_way h l r
  generalize getC c l r = g at hw
  cases hw
  · exact .inr rfl
  · exact .inr rfl
  · exact .inl rfl

end Go.Proofs.Ytjifmfgfmciaeaa
