/- Strings as lists of bytes. -/
import Derived.Test.YtdphdodjidbngaaBase
namespace Go.Proofs.Ytdphdodjidbngaa
open Go.RowKit

def str (l : List UInt8) : ByteArray := ⟨l.toArray⟩
theorem str_size (l : List UInt8) : (str l).size = l.length := bsize l
theorem str_app (l m : List UInt8) : str l ++ str m = str (l ++ m) := bapp l m
end Go.Proofs.Ytdphdodjidbngaa

