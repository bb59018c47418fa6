/-
  Package lru keeps what the laws ask of it: its four calls answer as chapter 13 says, in new memory, and nothing that was there is changed.
-/
import Derived.Test.YtndhaickelbkiaaImpG
namespace Go.Proofs.Ytndhaickelbkiaa
open Go.RowKit

theorem PutNew.told {N O : List Sl} {b : Int} {w : World} {e : Ending} {w' : World} (h : PutNew N O b w e w') : PutTold N O b w e w' := by
  obtain ⟨A, B, n, m, c, d, h1, h2, h3, h4, h5, h6, _⟩ := h
  exact ⟨A, B, n, m, c, d, h1, h2, h3, h4, h5, h6⟩
theorem GetNew.told {x : Sl} {M : List Sl} {b : Int} {w : World} {e : Ending} {w' : World} (h : GetNew x M b w e w') : GetTold x M b w e w' := by
  obtain ⟨A, n, c, h1, h2, h3, h4, _⟩ := h
  exact ⟨A, n, c, h1, h2, h3, h4⟩
theorem lru_new : LruNew where
  get A L n c ks kl w x M b hm ha hn h1 hf := get_any A L n c ks kl w x M b hm ha hn (by omega) hf
  put A L n c room s w N O b hm ha hn h1 hf hs r1 r2 := put_any A L n c room s w N O b hm ha hn (by omega) hf hs r1 r2
theorem lru_ok : LruOk where
  right A L n c w b hb ha hn h1 hf := right_any A L n c w b hb ha hn (by omega) hf
  keys A L n c w ha hn h1 := keys_any A L n c w ha hn (by omega)
  get A L n c ks kl w x M b hm ha hn h1 hf := (get_any A L n c ks kl w x M b hm ha hn (by omega) hf).mono fun _ _ h => h.told
  put A L n c room s w N O b hm ha hn h1 hf hs r1 r2 := (put_any A L n c room s w N O b hm ha hn (by omega) hf hs r1 r2).mono fun _ _ h => h.told

end Go.Proofs.Ytndhaickelbkiaa
