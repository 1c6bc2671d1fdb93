/- The program's maps of events as rows that rise. -/
import Derived.Test.YtobkinocaomcmaaGreatZGpPlain
import Derived.Test.YtobkinocaomcmaaGreatZGpPut
import Derived.Test.YtobkinocaomcmaaGreatZGrReady
import Derived.Lib.SlKeysI
namespace Go.Proofs.YtobkinocaomcmaaGreat
open Go.RowKit

def RisM (l : List Em) : Prop := RisE (vs l)
def insE (l : List Em) (x : Em) : List Em := l.take (placeM l x.v.id) ++ x :: l.drop (placeM l x.v.id)
def woE (l : List Em) (id : Int) : List Em := l.filter fun m => m.v.id != id
theorem placeM_eqV (l : List Em) (id : Int) : placeM l id = placeV (vs l) id := by
  unfold placeM placeV vs
  rw [List.takeWhile_map, List.length_map]
  rfl
theorem vs_insE (l : List Em) (x : Em) : vs (insE l x) = insV (vs l) x.v := by
  unfold insE insV
  rw [placeM_eqV, vs, vs, List.map_append, List.map_cons, List.map_take, List.map_drop]
theorem vs_woE (l : List Em) (id : Int) : vs (woE l id) = woV (vs l) id := by
  unfold woE woV vs
  rw [List.filter_map]
  rfl
theorem insE_cons (y : Em) (l : List Em) (x : Em) : insE (y :: l) x = if y.v.id < x.v.id then y :: insE l x else x :: y :: l := by
  unfold insE placeM
  by_cases h : y.v.id < x.v.id
  · rw [List.takeWhile_cons_of_pos (by simpa using h), if_pos h]
    simp
  · rw [List.takeWhile_cons_of_neg (by simpa using h), if_neg h]
    simp
theorem mem_insE {l : List Em} {x e : Em} : e ∈ insE l x ↔ e = x ∨ e ∈ l := by
  induction l with
  | nil => simp [insE, placeM]
  | cons y l ih =>
    rw [insE_cons]
    split
    · simp only [List.mem_cons, ih]
      constructor
      · rintro (h | h | h)
        · exact .inr (.inl h)
        · exact .inl h
        · exact .inr (.inr h)
      · rintro (h | h | h)
        · exact .inr (.inl h)
        · exact .inl h
        · exact .inr (.inr h)
    · simp only [List.mem_cons]
theorem mem_woE {l : List Em} {id : Int} {e : Em} : e ∈ woE l id ↔ e ∈ l ∧ e.v.id ≠ id := by simp [woE]
def pairE (m : Em) : Lit × DataW Value := (.int .i64 m.v.id, .held (emVal m))
/-- A map of events, its entries in the order of their Ids. -/
def mapL (es : List Em) : DataW Value := .map (es.map pairE)
theorem sameKey_i64 (a b : Int) : (Lit.int .i64 a).sameKey (.int .i64 b) = (a == b) := by
  by_cases h : a = b
  · subst h
    simp [Lit.sameKey]
  · simp [Lit.sameKey, h]
theorem insert_pair (x : Em) : ∀ (l : List Em), (∀ m ∈ l, m.v.id ≠ x.v.id) → DataW.insert (pairE x) (l.map pairE) = (insE l x).map pairE
  | [], _ => rfl
  | y :: l, h => by
    have hy := h y List.mem_cons_self
    rw [insE_cons, List.map_cons, DataW.insert]
    by_cases hlt : y.v.id < x.v.id
    · rw [if_pos hlt, if_neg (by simp [pairE, Lit.before]; omega), insert_pair x l fun m hm => h m (List.mem_cons_of_mem _ hm)]
      rfl
    · rw [if_neg hlt, if_pos (by simp [pairE, Lit.before]; omega)]
      rfl
theorem filter_pair (l : List Em) (id : Int) : (l.map pairE).filter (fun p => !p.1.sameKey (.int .i64 id)) = (woE l id).map pairE := by
  unfold woE
  rw [List.filter_map]
  congr 1
  refine List.filter_congr fun m _ => ?_
  simp only [Function.comp, pairE, sameKey_i64]
  rfl
theorem mapL_put {l : List Em} {x : Em} (h : ∀ m ∈ l, m.v.id ≠ x.v.id) : (mapL l).put (.int .i64 x.v.id) (.held (emVal x)) = mapL (insE l x) := by
  have hw : woE l x.v.id = l := List.filter_eq_self.2 fun m hm => by simpa using h m hm
  show DataW.map (DataW.insert (pairE x) ((l.map pairE).filter fun p => !p.1.sameKey (.int .i64 x.v.id))) = _
  rw [filter_pair, hw, insert_pair x l h]
  rfl
theorem mapL_del (l : List Em) (id : Int) : (mapL l).del (.int .i64 id) = mapL (woE l id) := by
  show DataW.map ((l.map pairE).filter fun p => !p.1.sameKey (.int .i64 id)) = _
  rw [filter_pair]
  rfl
theorem mapL_size (l : List Em) : Maps.size (mapL l) = l.length := by
  show (l.map pairE).length = _
  simp
theorem mapL_keys (l : List Em) : intKeys (mapL l) = idsOf l := by
  show (l.map pairE).map (fun p => intOf p.1) = _
  rw [List.map_map]
  rfl
theorem risM_snoc {l : List Em} {x : Em} (h : RisM (l ++ [x])) : RisM l ∧ ∀ m ∈ l, m.v.id < x.v.id := by
  unfold RisM RisE vs at h ⊢
  rw [List.map_append, List.pairwise_append] at h
  exact ⟨h.1, fun m hm => h.2.2 m.v (List.mem_map.2 ⟨m, hm, rfl⟩) x.v (by simp)⟩
theorem insE_last {x : Em} : ∀ {l : List Em}, (∀ m ∈ l, m.v.id < x.v.id) → insE l x = l ++ [x]
  | [], _ => rfl
  | y :: l, h => by rw [insE_cons, if_pos (h y List.mem_cons_self), insE_last fun m hm => h m (List.mem_cons_of_mem _ hm)]; rfl
theorem putAll_eq : ∀ (n : Nat) {l : List Em}, l.length = n → RisM l → putAll l = mapL l
  | 0, l, h0, _ => by rw [List.eq_nil_of_length_eq_zero h0]; rfl
  | n + 1, l, hl, h => by
    have hne : l ≠ [] := fun e => by rw [e] at hl; cases hl
    obtain ⟨l', x, rfl⟩ : ∃ l' x, l = l' ++ [x] := ⟨l.dropLast, l.getLast hne, (List.dropLast_concat_getLast hne).symm⟩
    obtain ⟨h1, h2⟩ := risM_snoc h
    have ih := putAll_eq n (l := l') (by simpa using hl) h1
    have e : putAll (l' ++ [x]) = (putAll l').put (.int .i64 x.v.id) (.held (emVal x)) := by unfold putAll; rw [List.foldl_append]; rfl
    rw [e, ih, mapL_put fun m hm => by have := h2 m hm; omega, insE_last h2]
theorem risM_insE {l : List Em} {x : Em} (h : RisM l) (hn : ∀ m ∈ l, m.v.id ≠ x.v.id) : RisM (insE l x) := by
  unfold RisM
  rw [vs_insE]
  refine insV_rises h fun e he => ?_
  obtain ⟨m, hm, rfl⟩ := List.mem_map.1 he
  exact hn m hm
theorem risM_woE {l : List Em} {id : Int} (h : RisM l) : RisM (woE l id) := by
  unfold RisM
  rw [vs_woE]
  exact woV_rises h
theorem rowB_risM {es : List Em} {room : Int} {most : Nat} (h : rowB es room most = true) : RisM es := by
  unfold RisM RisE
  rw [List.pairwise_iff_getElem]
  intro i j hi hj hlt
  have hj' : j < es.length := by simpa [vs] using hj
  have := rowB_rise h (j - i - 1) i (by omega)
  have e : i + (j - i - 1) + 1 = j := by omega
  simp only [e] at this
  simpa [vs] using this
/-- A map of events of one's own, in memory. -/
def EMap (w : World) (b n : Nat) (es : List Em) : Prop := w.ownsMap Tryz.prog 2 heldR b n (putAll es) ∧ RisM es
theorem EMap.kept {w w' : World} {b n : Nat} {es : List Em} (h : EMap w b n es) (hb : Below w.heap.size w w') : EMap w' b n es := ⟨ownsMap_below h.1 hb, h.2⟩
theorem EMap.lt {w : World} {b n : Nat} {es : List Em} (h : EMap w b n es) : b < w.heap.size := h.1.lt
theorem EMap.size {w : World} {b n : Nat} {es : List Em} (h : EMap w b n es) : Maps.size (putAll es) = es.length := by rw [putAll_eq _ rfl h.2, mapL_size]
theorem EMap.keys {w : World} {b n : Nat} {es : List Em} (h : EMap w b n es) : intKeys (putAll es) = idsOf es := by rw [putAll_eq _ rfl h.2, mapL_keys]
theorem EMap.put {w w' : World} {b n m : Nat} {es : List Em} {x : Em} (h : EMap w b n es) (hn : ∀ e ∈ es, e.v.id ≠ x.v.id) (ho : w'.ownsMap Tryz.prog 2 heldR b m ((putAll es).put (.int .i64 x.v.id) (.held (emVal x)))) : EMap w' b m (insE es x) := by
  have hr := risM_insE h.2 hn
  refine ⟨?_, hr⟩
  rw [putAll_eq _ rfl hr, ← mapL_put hn, ← putAll_eq _ rfl h.2]
  exact ho
theorem EMap.del {w w' : World} {b n m : Nat} {es : List Em} {id : Int} (h : EMap w b n es) (ho : w'.ownsMap Tryz.prog 2 heldR b m ((putAll es).del (.int .i64 id))) : EMap w' b m (woE es id) := by
  refine ⟨?_, risM_woE h.2⟩
  rw [putAll_eq _ rfl (risM_woE h.2), ← mapL_del, ← putAll_eq _ rfl h.2]
  exact ho
end Go.Proofs.YtobkinocaomcmaaGreat
