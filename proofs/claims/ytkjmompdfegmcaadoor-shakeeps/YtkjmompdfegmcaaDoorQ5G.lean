/- SHA-512 as a function of bytes. -/
import Derived.Test.YtkjmompdfegmcaaDoorQ5F
import Derived.Test.YtkjmompdfegmcaaDoorShaL
namespace Go.Proofs.YtkjmompdfegmcaaDoor.Q5
open Go Go.RowKit

def tabK : List (BitVec 64) := [4794697086780616226, 8158064640168781261, 13096744586834688815, 16840607885511220156, 4131703408338449720, 6480981068601479193, 10538285296894168987, 12329834152419229976, 15566598209576043074, 1334009975649890238, 2608012711638119052, 6128411473006802146, 8268148722764581231, 9286055187155687089, 11230858885718282805, 13951009754708518548, 16472876342353939154, 17275323862435702243, 1135362057144423861, 2597628984639134821, 3308224258029322869, 5365058923640841347, 6679025012923562964, 8573033837759648693, 10970295158949994411, 12119686244451234320, 12683024718118986047, 13788192230050041572, 14330467153632333762, 15395433587784984357, 489312712824947311, 1452737877330783856, 2861767655752347644, 3322285676063803686, 5560940570517711597, 5996557281743188959, 7280758554555802590, 8532644243296465576, 9350256976987008742, 10552545826968843579, 11727347734174303076, 12113106623233404929, 14000437183269869457, 14369950271660146224, 15101387698204529176, 15463397548674623760, 17586052441742319658, 1182934255886127544, 1847814050463011016, 2177327727835720531, 2830643537854262169, 3796741975233480872, 4115178125766777443, 5681478168544905931, 6601373596472566643, 7507060721942968483, 8399075790359081724, 8693463985226723168, 9568029438360202098, 10144078919501101548, 10430055236837252648, 11840083180663258601, 13761210420658862357, 14299343276471374635, 14566680578165727644, 15097957966210449927, 16922976911328602910, 17689382322260857208, 500013540394364858, 748580250866718886, 1242879168328830382, 1977374033974150939, 2944078676154940804, 3659926193048069267, 4368137639120453308, 4836135668995329356, 5532061633213252278, 6448918945643986474, 6902733635092675308, 7801388544844847127]
def K512 (t : Nat) : BitVec 64 := tabK.getD t 0
def H512 : St := ⟨7640891576956012808, 13503953896175478587, 4354685564936845355, 11912009170470909681, 5840696475078001361, 11170449401992604703, 2270897969802886507, 6620516959819538809⟩
/-- The schedule of a block. -/
def schedW (m : Nat → BitVec 8) (t : Nat) : BitVec 64 :=
  if _h : t < 16 then word fun i => m (8 * t + i)
  else lo1 (schedW m (t - 2)) + schedW m (t - 7) + lo0 (schedW m (t - 15)) + schedW m (t - 16)
theorem schedW_ok (m : Nat → BitVec 8) : Sched m (schedW m) where
  first t h := by rw [schedW, dif_pos h]
  later t h _ := by rw [schedW, dif_neg (by omega)]
/-- One block taken into a state. -/
def compress (K : Nat → BitVec 64) (s : St) (m : Nat → BitVec 8) : St := plus s (rounds K (schedW m) s 80)
/-- The state behind k whole blocks of M. -/
def blocks (K : Nat → BitVec 64) (s0 : St) (M : Nat → BitVec 8) : Nat → St
  | 0 => s0
  | k + 1 => compress K (blocks K s0 M k) (fun i => M (128 * k + i))
theorem word_congr {b b' : Nat → BitVec 8} (h : ∀ i, i < 8 → b i = b' i) : word b = word b' := by
  unfold word
  rw [h 0 (by omega), h 1 (by omega), h 2 (by omega), h 3 (by omega), h 4 (by omega), h 5 (by omega), h 6 (by omega), h 7 (by omega)]
theorem schedW_congr (m m' : Nat → BitVec 8) (h : ∀ i, i < 128 → m i = m' i) : ∀ t, t < 80 → schedW m t = schedW m' t := by
  intro t
  induction t using Nat.strongRecOn with
  | _ t ih =>
    intro ht
    by_cases h1 : t < 16
    · rw [(schedW_ok m).first t h1, (schedW_ok m').first t h1]
      exact word_congr fun i hi => h _ (by omega)
    · rw [(schedW_ok m).later t (by omega) ht, (schedW_ok m').later t (by omega) ht, ih (t - 2) (by omega) (by omega), ih (t - 7) (by omega) (by omega), ih (t - 15) (by omega) (by omega), ih (t - 16) (by omega) (by omega)]
theorem rounds_congr (K W W' : Nat → BitVec 64) (s : St) : ∀ n, (∀ t, t < n → W t = W' t) → rounds K W s n = rounds K W' s n
  | 0, _ => rfl
  | n + 1, h => by rw [rounds, rounds, rounds_congr K W W' s n (fun t ht => h t (by omega)), h n (by omega)]
theorem compress_congr (K : Nat → BitVec 64) (s : St) (m m' : Nat → BitVec 8) (h : ∀ i, i < 128 → m i = m' i) : compress K s m = compress K s m' := by
  rw [compress, compress, rounds_congr K _ _ s 80 (schedW_congr m m' h)]
theorem blocks_congr (K : Nat → BitVec 64) (s0 : St) (M M' : Nat → BitVec 8) : ∀ k, (∀ i, i < 128 * k → M i = M' i) → blocks K s0 M k = blocks K s0 M' k
  | 0, _ => rfl
  | k + 1, h => by rw [blocks, blocks, blocks_congr K s0 M M' k (fun i hi => h i (by omega)), compress_congr K _ _ _ (fun i hi => h (128 * k + i) (by omega))]
/-- How many blocks N bytes take, with what is laid behind them. -/
def nblk (N : Nat) : Nat := (N + 16) / 128 + 1
/-- Byte j of the number of bits, of sixteen. -/
def lenByte (N j : Nat) : BitVec 8 := if j < 8 then 0 else (BitVec.ofNat 64 (8 * N) >>> (56 - 8 * (j - 8))).setWidth 8
/-- The message with what is laid behind it. -/
def padM (M : Nat → BitVec 8) (N i : Nat) : BitVec 8 := if i < N then M i else if i = N then 128 else if i < 128 * nblk N - 16 then 0 else lenByte N (i - (128 * nblk N - 16))
/-- The state behind the whole message. -/
def sumSt (K : Nat → BitVec 64) (s0 : St) (M : Nat → BitVec 8) (N : Nat) : St := blocks K s0 (padM M N) (nblk N)
theorem blocks_pad (K : Nat → BitVec 64) (s0 : St) (M : Nat → BitVec 8) (N : Nat) : blocks K s0 (padM M N) (N / 128) = blocks K s0 M (N / 128) :=
  blocks_congr K s0 _ _ _ (fun i hi => by rw [padM, if_pos (by omega)])
theorem row_get (s : St) : ∀ i, i < 8 → s.row[i]? = some (U (s.at i))
  | 0, _ => rfl
  | 1, _ => rfl
  | 2, _ => rfl
  | 3, _ => rfl
  | 4, _ => rfl
  | 5, _ => rfl
  | 6, _ => rfl
  | 7, _ => rfl
theorem row_setCells {W : World} {q : Nat} {cs : Array Value} (hq : W.heap[q]? = some (.cells cs 47 (0, 0))) (hs : cs.size = 8) (p : St) : (W.setCells q 0 p.row.toList).heap[q]? = some (.cells p.row 47 (0, 0)) := by
  refine heap_setCells hq 0 _ (by rw [hs]; simp [St.row]) (fun i => ?_)
  have hl : p.row.toList.length = 8 := rfl
  rw [hl, Array.getElem?_toList]
  by_cases h1 : i < 8
  · rw [if_pos (by omega)]; rfl
  · have hne : ¬ (0 ≤ i ∧ i < 0 + 8) := by omega
    rw [if_neg hne, Array.getElem?_eq_none (by simp [St.row]; omega), Array.getElem?_eq_none (by omega)]
end Go.Proofs.YtkjmompdfegmcaaDoor.Q5
