/-
  One more who begins, and is done, or leaves: plain mathematics.
-/
import Derived.Test.YtllkegonhghkcaaFls
namespace Go.Proofs.Ytllkegonhghkcaa
open Go.RowKit P15

theorem waits_joined {L : List Fl} {l r : ByteArray} {who : Int} (h : (l, r) ∈ txts L) : who ∈ waits (joined L l r who) := by
  obtain ⟨x, hx, e⟩ := mem_txts.1 h
  refine mem_waits.2 ⟨{ x with wait := x.wait ++ [who] }, ?_, by simp⟩
  exact List.mem_map.2 ⟨x, hx, by rw [if_pos e]⟩
theorem gone_joined {L : List Fl} {l r : ByteArray} {who : Int} (h : who ∉ waits L) : gone (joined L l r who) who = L := by
  unfold gone joined
  rw [List.map_map]
  refine (List.map_congr_left (g := id) fun x hx => ?_).trans (List.map_id _)
  have hn : who ∉ x.wait := fun hw => h (mem_waits.2 ⟨x, hx, hw⟩)
  show ({ (if x.txt = (l, r) then { x with wait := x.wait ++ [who] } else x) with wait := without (if x.txt = (l, r) then { x with wait := x.wait ++ [who] } else x).wait who } : Fl) = x
  split
  · show ({ x with wait := without (x.wait ++ [who]) who } : Fl) = x
    rw [without_snoc_eq rfl, without_none hn]
  · show ({ x with wait := without x.wait who } : Fl) = x
    rw [without_none hn]
/-- what begins for two texts, and what becomes of it -/
structure Began (F : List Fl) (l r : ByteArray) (who : Int) (a : Bool) (G : List Fl) : Prop where
  beg : beginF F l r who = (a, G, 0)
  other : ∀ (i : Nat) (x : Fl), F[i]? = some x → x.txt ≠ (l, r) → G[i]? = some x
  mine : ∀ (i : Nat) (x : Fl), F[i]? = some x → x.txt = (l, r) → G[i]? = some ⟨x.left, x.right, x.by_, x.wait ++ [who]⟩ ∧ a = false
  len : F.length ≤ G.length
  fit : FitF G
  done : a = true → doneF G who = ([], F, 0)
  leave : a = false → leaveF G who = (F, 0)
theorem began {F : List Fl} (h : GoodF F) {l r : ByteArray} (h1 : l.size ≤ 2) (h2 : r.size ≤ 2) {who : Int} (hw : 8 ≤ who) (hw2 : who ≤ 1000) : ∃ a G, Began F l r who a G := by
  have hn : who ∉ P15.nums F := fun hm => by have := h.rng who hm; omega
  have hr := rightB_iff.2 h.right
  have hs := h.small
  by_cases ht : (l, r) ∈ txts F
  · refine ⟨false, joined F l r who, beginF_join hr hn ht, fun i x hx hne => ?_, fun i x hx he => ⟨?_, rfl⟩, by unfold joined; rw [List.length_map]; exact Nat.le_refl _, ?_, (by intro h; cases h), fun _ => ?_⟩
    · unfold joined; rw [List.getElem?_map, hx, Option.map_some, if_neg hne]
    · unfold joined; rw [List.getElem?_map, hx, Option.map_some, if_pos he]
    · refine ⟨by unfold joined; rw [List.length_map]; omega, fun y hy => ?_, fun n hnn => ?_⟩
      · obtain ⟨x, hx, rfl⟩ := List.mem_map.1 hy
        have := hs.2 x hx
        have := h.size x hx
        split
        · exact ⟨by show (x.wait ++ [who]).length ≤ 1000; rw [List.length_append, List.length_singleton]; omega, by show x.left.size ≤ _; omega, by show x.right.size ≤ _; omega⟩
        · omega
      · rcases mem_joined hnn with hnn | rfl
        · have := h.rng n hnn; exact ⟨by omega, by omega⟩
        · exact ⟨by omega, by omega⟩
    · rw [leaveF_some (rightB_iff.2 (h.right.joined hn)) (waits_joined ht), gone_joined fun hm => hn (nums_iff.2 (.inr hm))]
  · refine ⟨true, F ++ [⟨l, r, who, []⟩], beginF_new hr hn ht, fun i x hx _ => ?_, fun i x hx he => absurd (mem_txts.2 ⟨x, List.mem_of_getElem? hx, he⟩) ht, by rw [List.length_append]; omega, ?_, fun _ => ?_, (by intro h; cases h)⟩
    · rw [List.getElem?_append_left (List.getElem?_eq_some_iff.1 hx).1]; exact hx
    · refine ⟨by rw [List.length_append, List.length_singleton]; omega, fun y hy => ?_, fun n hnn => ?_⟩
      · rcases List.mem_append.1 hy with hy | hy
        · have := hs.2 y hy
          have := h.size y hy
          omega
        · rw [List.mem_singleton.1 hy]
          exact ⟨Nat.zero_le _, by show l.size ≤ _; omega, by show r.size ≤ _; omega⟩
      · rw [nums_append] at hnn
        rcases List.mem_append.1 hnn with hnn | hnn
        · have := h.rng n hnn; exact ⟨by omega, by omega⟩
        · have : n = who := by simpa [P15.nums, Fl.nums] using hnn
          rw [this]; exact ⟨by omega, by omega⟩
    · rw [doneF_some (x := ⟨l, r, who, []⟩) (rightB_iff.2 (h.right.new hn ht)) (by simp) rfl, ended_eq rfl]
      have : ended F who = F := List.filter_eq_self.2 fun x hx => decide_eq_true fun e => hn (mem_nums.2 ⟨x, hx, .inl e.symm⟩)
      rw [this]
theorem drop_take_one {α : Type} {L : List α} {i : Nat} {x : α} (h : L[i]? = some x) : (L.drop i).take 1 = [x] := by
  obtain ⟨hk, rfl⟩ := List.getElem?_eq_some_iff.1 h
  rw [List.drop_eq_getElem_cons hk]; rfl
/-- one of them, as a list -/
theorem fills_one {w : World} {a : Addr} {L : List Fl} (h : FillsAt w (some a) L) {i c : Nat} {x : Fl} (hx : L[i]? = some x) (hc : L.length ≤ c) : FillsAt w (some (a.add (i * 4))) [x] := by
  have hi := (List.getElem?_eq_some_iff.1 hx).1
  have := (h.drop i c (by omega) hc).take 1
  rw [drop_take_one hx, if_neg (by omega)] at this
  exact this
theorem op_one_of {o : Oper} {a : Act} {p q s : Nat} {b : Addr} {n c k : Nat} {x y : Int} {W : World} (ho : o.op = Op.slice 22 (.tmp p) (some (.tmp q)) (some (.tmp s)) none) (hp : a.eval (.tmp p) = .slice (some b) n c) (hq : a.eval (.tmp q) = .int .i64 x) (hs : a.eval (.tmp s) = .int .i64 y) (hx : x = (k : Int)) (hy : y = (k : Int) + 1) (h1 : k < n) (h2 : n ≤ c) :
    (execOp a.eval o).run Try.prog W = .ok (.value (.slice (some (b.add (k * 4))) 1 (c - k))) W := by
  subst hx
  obtain ⟨m, hm⟩ : ∃ m, m = k + 1 := ⟨_, rfl⟩
  have hy2 : y = (m : Int) := by omega
  subst hy2
  have hp' : a.tmps[p]?.getD undef = .slice (some b) n c := by simpa [Act.eval] using hp
  have hq' : a.tmps[q]?.getD undef = .int .i64 (k : Int) := by simpa [Act.eval] using hq
  have hs' : a.tmps[s]?.getD undef = .int .i64 (m : Int) := by simpa [Act.eval] using hs
  have hcell : Try.prog.cellsOf 28 = 4 := by kernel_rfl
  have hkc : ¬ c = k := by omega
  have hkc2 : ¬ k = c := by omega
  have hmc : ¬ c < m := by omega
  have hkm : ¬ m < k := by omega
  have hmk : m - k = 1 := by omega
  simp only [execOp, ho]
  go_simp
  intro h
  exact absurd (h (by omega)) (by omega)

end Go.Proofs.Ytllkegonhghkcaa
